/- The program's way of the sun, and the height at a minute. -/
import Derived.Test.YtagebpmciimcgabDoorSunI
import Derived.Deep.QuietTactic
import Derived.BigQuiet
namespace Go.Proofs.YtagebpmciimcgabDoor
open Go.ChangeShapes Go.WideShapes Go.ChangeAt Go.RowKit Pm

/-- The way of the sun is returned, and a code. -/
def RetPath (a b c : Int) (w : World) (e : Ending) (w' : World) : Prop := e = .returned (.tuple #[.agg #[.int .i64 a, .int .i64 b], .int .i64 c]) ∧ Below w.heap.size w w'

theorem path_no1 (lat D : Int) (w : World) (h : inB 0 99999 [D] = false) :
    Calls Tryd.prog 85 #[.int .i64 lat, .int .i64 D] w (RetPath 0 0 2 w) := by
  have HD := Lib.hid (fun w => decl_no D w h)
  clear h
  go_enter Tryd.func85, Tryd.ntmps85
  go_wp2_with (first
    | (go_at_call 104; refine (HD.out _).mono ?_; rintro e w1 ⟨rfl, hb⟩; have c0 := cell_below (a := ⟨w.heap.size, 0, none⟩) (v := .int .i64 0) (by go_cell) hb; have c1 := cell_below (a := ⟨w.heap.size, 1, none⟩) (v := .int .i64 0) (by go_cell) hb; have f0 := frozen_kept (a := ⟨w.heap.size, 0, none⟩) hb (by go_simp) (by simp); have f1 := frozen_kept (a := ⟨w.heap.size, 1, none⟩) hb (by go_simp) (by simp); have hz := lt_kept (b := w.heap.size) hb (by simp); have ac := Lib.hid (Below.next (a := w) (by go_grown) hb); clear hb))
  refine bodyPost_ret (v := .tuple #[.agg #[.int .i64 0, .int .i64 0], .int .i64 2]) (by simp [results, Tryd.results85, go_sem, *]) rfl ⟨rfl, ?_⟩
  exact (ac.out.setCell (Nat.le_refl _) _).setCell (Nat.le_refl _) _
theorem path_no2 (lat D n : Int) (w : World) (hS : SinesAt w) (h : DoyIs D n) (hD : D ≤ 99999) (hl : inB (-66) 66 [lat] = false) :
    Calls Tryd.prog 85 #[.int .i64 lat, .int .i64 D] w (RetPath 0 0 2 w) := by
  have HD := Lib.hid (fun w hS => decl_yes D n w hS h hD)
  have HI := Lib.hid (fun w sv hs => hl ▸ within_any (-66) 66 sv [lat] w hs)
  have HS := Lib.hid hS
  obtain ⟨dd, hdd⟩ : ∃ dd, dd = declOf n := ⟨_, rfl⟩
  rw [← hdd] at HD
  clear h hl hS hdd
  go_enter Tryd.func85, Tryd.ntmps85
  go_wp2_with (first
    | (go_at_call 104; refine (HD.out _ (HS.out.below (by go_grown))).mono ?_; rintro e w1 ⟨rfl, hb⟩; have c0 := cell_below (a := ⟨w.heap.size, 0, none⟩) (v := .int .i64 0) (by go_cell) hb; have c1 := cell_below (a := ⟨w.heap.size, 1, none⟩) (v := .int .i64 0) (by go_cell) hb; have f0 := frozen_kept (a := ⟨w.heap.size, 0, none⟩) hb (by go_simp) (by simp); have f1 := frozen_kept (a := ⟨w.heap.size, 1, none⟩) hb (by go_simp) (by simp); have hz := lt_kept (b := w.heap.size) hb (by simp); have ac := Lib.hid (Below.next (a := w) (by go_grown) hb); have H1 := ints_one w1 .i64 lat 2; clear hb)
    | (go_at_call 44; refine (HI.out _ _ H1).mono ?_; rintro e w2 ⟨rfl, hw2⟩; have hb := (Below.refl w1.heap.size w1).alloc (Nat.le_refl _) (.cells #[.int .i64 lat] 2); rw [hw2] at hb; have c0 := cell_below c0 hb; have c1 := cell_below c1 hb; have f0 := frozen_kept hb f0 hz; have f1 := frozen_kept hb f1 hz; have hz := lt_kept hb hz; have ac := Lib.hid (Below.next ac.out hb); clear H1 hw2 hb))
  refine bodyPost_ret (v := .tuple #[.agg #[.int .i64 0, .int .i64 0], .int .i64 2]) (by simp [results, Tryd.results85, go_sem, *]) rfl ⟨rfl, ?_⟩
  exact (ac.out.setCell (Nat.le_refl _) _).setCell (Nat.le_refl _) _

set_option maxRecDepth 100000 in
set_option maxHeartbeats 1000000 in
theorem path_yes (lat D n : Int) (w : World) (hS : SinesAt w) (h : DoyIs D n) (hD : D ≤ 99999) (hl : inB (-66) 66 [lat] = true) :
    Calls Tryd.prog 85 #[.int .i64 lat, .int .i64 D] w (RetPath (stillOf lat n) (movesOf lat n) 0 w) := by
  have hlb : -66 ≤ lat ∧ lat ≤ 66 := by simpa [inB] using hl
  have hnb := h.bd
  have hdb := decl_bd (n := n) (by omega) (by omega)
  have HD := Lib.hid (fun w hS => decl_yes D n w hS h hD)
  have HI := Lib.hid (fun w sv hs => hl ▸ within_any (-66) 66 sv [lat] w hs)
  have HS := Lib.hid hS
  have e1 : stillOf lat n = dvr (sinR lat * sineT (declOf n)) 1000000 := rfl
  have e2 : movesOf lat n = dvr (cosR lat * sineT (900 - (if declOf n < 0 then -declOf n else declOf n))) 1000000 := rfl
  have hsb := still_bd lat n
  have hmb := moves_bd lat n
  obtain ⟨dd, hdd⟩ : ∃ dd, dd = declOf n := ⟨_, rfl⟩
  rw [← hdd] at HD e1 e2 hdb
  obtain ⟨dd0, dd1⟩ := hdb
  have hg : Pm.greatestOf dd [-dd] = (if dd < 0 then -dd else dd) := by unfold Pm.greatestOf Pm.greatestOf; split <;> split <;> omega
  have hgb : 0 ≤ (if dd < 0 then -dd else dd) ∧ (if dd < 0 then -dd else dd) ≤ 234 := by split <;> omega
  have HG := Lib.hid (fun w sv hs => hg ▸ greatest_any dd sv [-dd] w hs)
  obtain ⟨g, eg⟩ : ∃ g, g = (if dd < 0 then -dd else dd) := ⟨_, rfl⟩
  rw [← eg] at HG e2 hgb
  obtain ⟨g0, g1⟩ := hgb
  have hT1 : sineTV dd = sineT dd := by unfold sineTV; rw [show inB (-36000) 36000 [dd] = true by simp [inB]; omega]; rfl
  have hT2 : sineTV (900 - g) = sineT (900 - g) := by unfold sineTV; rw [show inB (-36000) 36000 [900 - g] = true by simp [inB]; omega]; rfl
  have HT1 := Lib.hid (fun w hS => hT1 ▸ sinetenths_any dd w hS)
  have HT2 := Lib.hid (fun w hS => hT2 ▸ sinetenths_any (900 - g) w hS)
  have b1 := sineT_bd dd
  have b2 := sineT_bd (900 - g)
  obtain ⟨s, es⟩ : ∃ s, s = sineT dd := ⟨_, rfl⟩
  obtain ⟨c, ec⟩ : ∃ c, c = sineT (900 - g) := ⟨_, rfl⟩
  rw [← es] at HT1 b1 e1
  rw [← ec] at HT2 b2 e2
  have b3 := sin_bd lat
  have b4 := cos_bd lat
  have HSN := Lib.hid (fun w hS => sine_any lat w hS)
  have HCS := Lib.hid (fun w hS => cosine_any lat w hS)
  obtain ⟨x, ex⟩ : ∃ x, x = sinR lat := ⟨_, rfl⟩
  obtain ⟨y, ey⟩ : ∃ y, y = cosR lat := ⟨_, rfl⟩
  rw [← ex] at HSN b3 e1
  rw [← ey] at HCS b4 e2
  have b5 := mulAB x s 1000000 1000000 b3.1 b3.2 b1.1 b1.2
  have b6 := mulAB y c 1000000 1000000 b4.1 b4.2 b2.1 b2.2
  obtain ⟨p, ep⟩ : ∃ p, x * s = p := ⟨_, rfl⟩
  obtain ⟨q, eq⟩ : ∃ q, y * c = q := ⟨_, rfl⟩
  rw [ep] at e1 b5
  rw [eq] at e2 b6
  have HD1 := Lib.hid (fun w => divroundD p 1000000 w (by omega) (by omega) (by omega) (by omega) (by omega))
  have HD2 := Lib.hid (fun w => divroundD q 1000000 w (by omega) (by omega) (by omega) (by omega) (by omega))
  rw [← e1] at HD1
  rw [← e2] at HD2
  obtain ⟨st, est⟩ : ∃ st, st = stillOf lat n := ⟨_, rfl⟩
  obtain ⟨mv, emv⟩ : ∃ mv, mv = movesOf lat n := ⟨_, rfl⟩
  rw [← est] at HD1 hsb ⊢
  rw [← emv] at HD2 hmb ⊢
  obtain ⟨p0, p1⟩ := b5
  obtain ⟨q0, q1⟩ := b6
  clear h hl hS hdd eg hg hT1 hT2 es ec ex ey e1 e2 est emv b1 b2 b3 b4 hlb hnb hsb hmb
  go_enter Tryd.func85, Tryd.ntmps85
  go_wp2_with (first
    | (go_at_call 104; refine (HD.out _ (HS.out.below (by go_grown))).mono ?_; rintro e w1 ⟨rfl, hb⟩; have c0 := cell_below (a := ⟨w.heap.size, 0, none⟩) (v := .int .i64 0) (by go_cell) hb; have c1 := cell_below (a := ⟨w.heap.size, 1, none⟩) (v := .int .i64 0) (by go_cell) hb; have f0 := frozen_kept (a := ⟨w.heap.size, 0, none⟩) hb (by go_simp) (by simp); have f1 := frozen_kept (a := ⟨w.heap.size, 1, none⟩) hb (by go_simp) (by simp); have hz := lt_kept (b := w.heap.size) hb (by simp); have ac := Lib.hid (Below.next (a := w) (by go_grown) hb); have H1 := ints_one w1 .i64 lat 2; clear hb)
    | (go_at_call 44; refine (HI.out _ _ H1).mono ?_; rintro e w2 ⟨rfl, hw2⟩; have hb := (Below.refl w1.heap.size w1).alloc (Nat.le_refl _) (.cells #[.int .i64 lat] 2); rw [hw2] at hb; have c0 := cell_below c0 hb; have c1 := cell_below c1 hb; have f0 := frozen_kept hb f0 hz; have f1 := frozen_kept hb f1 hz; have hz := lt_kept hb hz; have ac := Lib.hid (Below.next ac.out hb); clear H1 hw2 hb)
    | (go_at_call 105; ((with_reducible refine (HT1.out _ (HS.out.below ac.out)).mono ?_); rintro e w3 ⟨rfl, hb⟩; have c0 := cell_below c0 hb; have c1 := cell_below c1 hb; have f0 := frozen_kept hb f0 hz; have f1 := frozen_kept hb f1 hz; have hz := lt_kept hb hz; have ac := Lib.hid (Below.next ac.out hb); have H2 := ints_one w3 .i64 (-dd) 2; clear hb))
    | (go_at_call 78; refine (HG.out _ _ H2).mono ?_; rintro e w4 ⟨rfl, hw4⟩; have hb := (Below.refl w3.heap.size w3).alloc (Nat.le_refl _) (.cells #[.int .i64 (-dd)] 2); rw [hw4] at hb; have c0 := cell_below c0 hb; have c1 := cell_below c1 hb; have f0 := frozen_kept hb f0 hz; have f1 := frozen_kept hb f1 hz; have hz := lt_kept hb hz; have ac := Lib.hid (Below.next ac.out hb); clear H2 hw4 hb)
    | (go_at_call 105; ((with_reducible refine (HT2.out _ (HS.out.below ac.out)).mono ?_); rintro e w5 ⟨rfl, hb⟩; have c0 := cell_below c0 hb; have c1 := cell_below c1 hb; have f0 := frozen_kept hb f0 hz; have f1 := frozen_kept hb f1 hz; have hz := lt_kept hb hz; have ac := Lib.hid (Below.next ac.out hb); clear hb))
    | (go_at_call 107; refine (HSN.out _ (HS.out.below ac.out)).mono ?_; rintro e w6 ⟨rfl, hb⟩; have c0 := cell_below c0 hb; have c1 := cell_below c1 hb; have f0 := frozen_kept hb f0 hz; have f1 := frozen_kept hb f1 hz; have hz := lt_kept hb hz; have ac := Lib.hid (Below.next ac.out hb); clear hb)
    | (go_at_call 106; ((with_reducible refine (HD1.out _).mono ?_); rintro e w7 ⟨rfl, hb⟩; have c0 := cell_below c0 hb; have c1 := cell_below c1 hb; have f0 := frozen_kept hb f0 hz; have f1 := frozen_kept hb f1 hz; have hz := lt_kept hb hz; have ac := Lib.hid (Below.next ac.out hb); clear hb))
    | (go_at_call 108; refine (HCS.out _ (HS.out.below ac.out)).mono ?_; rintro e w8 ⟨rfl, hb⟩; have c0 := cell_below c0 hb; have c1 := cell_below c1 hb; have f0 := frozen_kept hb f0 hz; have f1 := frozen_kept hb f1 hz; have hz := lt_kept hb hz; have ac := Lib.hid (Below.next ac.out hb); clear hb)
    | (go_at_call 106; ((with_reducible refine (HD2.out _).mono ?_); rintro e w9 ⟨rfl, hb⟩; have c0 := cell_below c0 hb; have c1 := cell_below c1 hb; have f0 := frozen_kept hb f0 hz; have f1 := frozen_kept hb f1 hz; have hz := lt_kept hb hz; have ac := Lib.hid (Below.next ac.out hb); clear hb)))
  refine bodyPost_ret (v := .tuple #[.agg #[.int .i64 st, .int .i64 mv], .int .i64 0]) (by simp [results, Tryd.results85, go_sem, *]) rfl ⟨rfl, ?_⟩
  exact (ac.out.setCell (Nat.le_refl _) _).setCell (Nat.le_refl _) _
end Go.Proofs.YtagebpmciimcgabDoor
