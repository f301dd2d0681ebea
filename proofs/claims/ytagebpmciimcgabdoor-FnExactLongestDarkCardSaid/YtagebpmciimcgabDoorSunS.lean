/- The model's sun. -/
import Derived.Test.YtagebpmciimcgabDoorSin
import Derived.Test.YtagebpmciimcgabDoorKit
import Derived.Test.YtagebpmciimcgabDoorDivS
import Derived.Test.YtagebpmciimcgabDoorCalT
import Derived.Test.YtagebpmciimcgabDoorSunN
import Derived.Deep.RegionHeld3
namespace Go.Proofs.YtagebpmciimcgabDoor
open Go.ChangeShapes Go.WideShapes Go.ChangeAt Go.RowKit Pm

theorem stenths_any (t : Int) (w : World) (t0 : -100000 ≤ t) (t1 : t ≤ 100000) :
    Calls Tryd.prog 115 #[.int .i64 t] w fun e w' => e = .returned (.int .i64 (sineT t)) ∧ Below w.heap.size w w' := by
  have hv : sineT t = sinR (t / 10) + dvr ((sinR (t / 10 + 1) - sinR (t / 10)) * (t % 10)) 10 := rfl
  have b0 := sin_bd (t / 10)
  have b1 := sin_bd (t / 10 + 1)
  have hr : 0 ≤ t % 10 ∧ t % 10 ≤ 9 := by omega
  have hq : -10000 ≤ t / 10 ∧ t / 10 ≤ 10000 := by omega
  have hm := mulAB (sinR (t / 10 + 1) - sinR (t / 10)) (t % 10) 2000000 10 (by omega) (by omega) (by omega) (by omega)
  have hp := part_bd (sinR (t / 10)) (sinR (t / 10 + 1)) (t % 10) 10 (by omega) hr.1 (by omega) b0.1 b0.2 b1.1 b1.2
  have htd := tdivq t
  have hsum : t = 10 * (t / 10) + t % 10 := by omega
  obtain ⟨r, er⟩ : ∃ r, r = t % 10 := ⟨_, rfl⟩
  obtain ⟨q, eq⟩ : ∃ q, q = t / 10 := ⟨_, rfl⟩
  rw [← er] at hv hr hm hp hsum
  rw [← eq] at hv b0 b1 hq hm hp htd hsum
  have HQ := Lib.hid (fun w => ssine_any q w)
  have HQ1 := Lib.hid (fun w => ssine_any (q + 1) w)
  obtain ⟨s0, e0⟩ : ∃ s, s = sinR q := ⟨_, rfl⟩
  obtain ⟨s1, e1⟩ : ∃ s, s = sinR (q + 1) := ⟨_, rfl⟩
  rw [← e0] at hv b0 hm hp HQ
  rw [← e1] at hv b1 hm hp HQ1
  obtain ⟨p, ep⟩ : ∃ p, (s1 - s0) * r = p := ⟨_, rfl⟩
  rw [ep] at hv hm hp
  have HD := Lib.hid (fun w => sdiv_any p 10 w (by omega) (by omega) (by omega) (by omega) (by omega))
  obtain ⟨z, ez⟩ : ∃ z, z = dvr p 10 := ⟨_, rfl⟩
  rw [← ez] at hv hp HD
  rw [hv]
  obtain ⟨hr0, hr1⟩ := hr
  obtain ⟨hq0, hq1⟩ := hq
  obtain ⟨a0, a1⟩ := b0
  obtain ⟨c0, c1⟩ := b1
  obtain ⟨m0, m1⟩ := hm
  obtain ⟨p0, p1⟩ := hp
  have er2 : t - 10 * q = r := by omega
  clear hv er eq e0 e1 ez hsum
  rcases htd with ⟨k0, k1⟩ | ⟨k0, k1⟩
  · obtain ⟨m, em⟩ : ∃ m, t.tmod 10 = m := ⟨_, rfl⟩
    rw [em] at k0
    go_enter Tryd.func115, Tryd.ntmps115
    go_wp2_with (first
      | (go_at_call 114; ((with_reducible refine (HQ.out _).mono ?_); rintro e w1 ⟨rfl, hb⟩; (first | have ac2 := Lib.hid (Below.next ac.out hb) | have ac := Lib.hid hb); clear hb))
      | (go_at_call 114; ((with_reducible refine (HQ1.out _).mono ?_); rintro e w2 ⟨rfl, hb⟩; have ac := Lib.hid (Below.next ac.out hb); clear hb))
      | (go_at_call 113; refine (HD.out _).mono ?_; rintro e w3 ⟨rfl, rfl⟩))
    go_ret
    exact ⟨rfl, ac2.out⟩
  · obtain ⟨m, em⟩ : ∃ m, t.tmod 10 = m := ⟨_, rfl⟩
    rw [em] at k0
    have kb : -10001 ≤ t.tdiv 10 ∧ t.tdiv 10 ≤ 10001 := by omega
    obtain ⟨u, eu⟩ : ∃ u, t.tdiv 10 = u := ⟨_, rfl⟩
    rw [eu] at k1 kb
    obtain ⟨kb0, kb1⟩ := kb
    go_enter Tryd.func115, Tryd.ntmps115
    go_wp2_with (first
      | (go_at_call 114; ((with_reducible refine (HQ.out _).mono ?_); rintro e w1 ⟨rfl, hb⟩; (first | have ac2 := Lib.hid (Below.next ac.out hb) | have ac := Lib.hid hb); clear hb))
      | (go_at_call 114; ((with_reducible refine (HQ1.out _).mono ?_); rintro e w2 ⟨rfl, hb⟩; have ac := Lib.hid (Below.next ac.out hb); clear hb))
      | (go_at_call 113; refine (HD.out _).mono ?_; rintro e w3 ⟨rfl, rfl⟩))
    go_ret
    exact ⟨rfl, ac2.out⟩

theorem sdecl_any (D n : Int) (w : World) (h : DoyIs D n) (hD : D ≤ 99999) :
    Calls Tryd.prog 112 #[.int .i64 D] w fun e w' => e = .returned (.int .i64 (declOf n)) ∧ Below w.heap.size w w' := by
  have hb := h.bd
  obtain ⟨b0, b1⟩ := hb
  obtain ⟨y, m, d, hd, hn⟩ := h
  have HY := Lib.hid (fun w => hn ▸ sdayofyear_yes D y m d w hd hD)
  have hc := cos_bd (dvr (360 * (n + 10)) 365)
  have HD1 := Lib.hid (fun w => sdiv_any (360 * (n + 10)) 365 w (by omega) (by omega) (by omega) (by omega) (by omega))
  have HC := Lib.hid (fun w => scosine_any (dvr (360 * (n + 10)) 365) w)
  have hl : declOf n = -dvr (234 * cosR (dvr (360 * (n + 10)) 365)) 1000000 := rfl
  have hdb := decl_bd (n := n) (by omega) (by omega)
  obtain ⟨x, ex⟩ : ∃ x, x = dvr (360 * (n + 10)) 365 := ⟨_, rfl⟩
  rw [← ex] at hc HD1 HC hl
  obtain ⟨c, ec⟩ : ∃ c, c = cosR x := ⟨_, rfl⟩
  rw [← ec] at hc HC hl
  have HD2 := Lib.hid (fun w => sdiv_any (234 * c) 1000000 w (by omega) (by omega) (by omega) (by omega) (by omega))
  obtain ⟨z, ez⟩ : ∃ z, z = dvr (234 * c) 1000000 := ⟨_, rfl⟩
  rw [← ez] at HD2 hl
  rw [hl] at hdb ⊢
  obtain ⟨c0, c1⟩ := hc
  clear ex ec ez hl hd hn
  go_enter Tryd.func112, Tryd.ntmps112
  go_wp2_with (first
    | (go_at_call 128; refine (HY.out _).mono ?_; rintro e w1 ⟨rfl, rfl⟩)
    | (go_at_call 113; ((with_reducible refine (HD1.out _).mono ?_); rintro e w2 ⟨rfl, rfl⟩))
    | (go_at_call 116; refine (HC.out _).mono ?_; rintro e w3 ⟨rfl, hb⟩)
    | (go_at_call 113; ((with_reducible refine (HD2.out _).mono ?_); rintro e w4 ⟨rfl, rfl⟩)))
  go_ret
  exact ⟨rfl, hb⟩

theorem sday4_any (n : Int) (w : World) :
    Calls Tryd.prog 91 #[.int .i64 n] w fun e w' => e = .returned (.bool (inB 0 99999 [n])) ∧ w = w' := by
  go_enter Tryd.func91, Tryd.ntmps91
  go_wp2_with (go_at_call 90; refine (in_any _ _ _ _).mono ?_; rintro e w' ⟨rfl, rfl⟩)
  go_ret
  exact ⟨rfl, rfl⟩
theorem sask_any (lat D : Int) (w : World) :
    Calls Tryd.prog 61 #[.int .i64 lat, .int .i64 D] w fun e w' => e = .returned (.bool (askB lat D)) ∧ w = w' := by
  cases h : inB (-66) 66 [lat]
  · have HV := Lib.hid (show askB lat D = false by unfold askB; rw [h]; rfl)
    have HI := Lib.hid (show ∀ w, Calls Tryd.prog 90 #[.int .i64 lat, .int .i64 (-66), .int .i64 66] w _ from fun w => h ▸ in_any lat (-66) 66 w)
    clear h
    go_enter Tryd.func61, Tryd.ntmps61
    go_wp2_with (go_at_call 90; refine (HI.out _).mono ?_; rintro e w' ⟨rfl, rfl⟩)
    go_ret
    exact ⟨retB HV.out.symm, rfl⟩
  · have HV := Lib.hid (show askB lat D = inB 0 99999 [D] by unfold askB; rw [h]; rfl)
    have HI := Lib.hid (show ∀ w, Calls Tryd.prog 90 #[.int .i64 lat, .int .i64 (-66), .int .i64 66] w _ from fun w => h ▸ in_any lat (-66) 66 w)
    have HD := Lib.hid (fun w => sday4_any D w)
    obtain ⟨b, eb⟩ : ∃ b, b = inB 0 99999 [D] := ⟨_, rfl⟩
    rw [← eb] at HV HD
    clear h eb
    go_enter Tryd.func61, Tryd.ntmps61
    go_wp2_with (first
      | (go_at_call 90; refine (HI.out _).mono ?_; rintro e w' ⟨rfl, rfl⟩)
      | (go_at_call 91; refine (HD.out _).mono ?_; rintro e w' ⟨rfl, rfl⟩))
    go_ret
    exact ⟨retB HV.out.symm, rfl⟩

/-- The greater of two. -/
def maxI (a b : Int) : Int := if a < b then b else a
theorem smaxi_any (a b : Int) (w : World) :
    Calls Tryd.prog 117 #[.int .i64 a, .int .i64 b] w fun e w' => e = .returned (.int .i64 (maxI a b)) ∧ w = w' := by
  by_cases h : a < b
  · have HV := Lib.hid (show maxI a b = b by unfold maxI; rw [if_pos h])
    by_cases h2 : b < a
    · omega
    go_enter Tryd.func117, Tryd.ntmps117
    go_wp2
    go_ret
    exact ⟨ret_i HV.out.symm, rfl⟩
  · by_cases h2 : b < a
    · have HV := Lib.hid (show maxI a b = a by unfold maxI; rw [if_neg h])
      go_enter Tryd.func117, Tryd.ntmps117
      go_wp2
      go_ret
      exact ⟨ret_i HV.out.symm, rfl⟩
    · obtain rfl : a = b := by omega
      have HV := Lib.hid (show maxI a a = a by unfold maxI; split <;> rfl)
      go_enter Tryd.func117, Tryd.ntmps117
      go_wp2
      go_ret
      exact ⟨ret_i HV.out.symm, rfl⟩

/-- The model's way of the sun is returned. -/
def RetSun (a b : Int) (w : World) (e : Ending) (w' : World) : Prop := e = .returned (.agg #[.int .i64 a, .int .i64 b]) ∧ Below w.heap.size w w'

set_option maxRecDepth 100000 in
set_option maxHeartbeats 1000000 in
theorem sof_any (lat D n : Int) (w : World) (h : DoyIs D n) (hD : D ≤ 99999) :
    Calls Tryd.prog 92 #[.int .i64 lat, .int .i64 D] w (RetSun (stillOf lat n) (movesOf lat n) w) := by
  have hnb := h.bd
  have hdb := decl_bd (n := n) (by omega) (by omega)
  have HD := Lib.hid (fun w => sdecl_any D n w h hD)
  have e1 : stillOf lat n = dvr (sinR lat * sineT (declOf n)) 1000000 := rfl
  have e2 : movesOf lat n = dvr (cosR lat * sineT (900 - (if declOf n < 0 then -declOf n else declOf n))) 1000000 := rfl
  obtain ⟨dd, hdd⟩ : ∃ dd, dd = declOf n := ⟨_, rfl⟩
  rw [← hdd] at HD e1 e2 hdb
  obtain ⟨dd0, dd1⟩ := hdb
  have hg : maxI dd (-dd) = (if dd < 0 then -dd else dd) := by unfold maxI; split <;> split <;> omega
  have hgb : 0 ≤ (if dd < 0 then -dd else dd) ∧ (if dd < 0 then -dd else dd) ≤ 234 := by split <;> omega
  have HG := Lib.hid (fun w => hg ▸ smaxi_any dd (-dd) w)
  obtain ⟨g, eg⟩ : ∃ g, g = (if dd < 0 then -dd else dd) := ⟨_, rfl⟩
  rw [← eg] at HG e2 hgb
  obtain ⟨g0, g1⟩ := hgb
  have HT1 := Lib.hid (fun w => stenths_any dd w (by omega) (by omega))
  have HT2 := Lib.hid (fun w => stenths_any (900 - g) w (by omega) (by omega))
  have b1 := sineT_bd dd
  have b2 := sineT_bd (900 - g)
  obtain ⟨s, es⟩ : ∃ s, s = sineT dd := ⟨_, rfl⟩
  obtain ⟨c, ec⟩ : ∃ c, c = sineT (900 - g) := ⟨_, rfl⟩
  rw [← es] at HT1 b1 e1
  rw [← ec] at HT2 b2 e2
  have b3 := sin_bd lat
  have b4 := cos_bd lat
  have HSN := Lib.hid (fun w => ssine_any lat w)
  have HCS := Lib.hid (fun w => scosine_any lat w)
  obtain ⟨x, ex⟩ : ∃ x, x = sinR lat := ⟨_, rfl⟩
  obtain ⟨y, ey⟩ : ∃ y, y = cosR lat := ⟨_, rfl⟩
  rw [← ex] at HSN b3 e1
  rw [← ey] at HCS b4 e2
  have b5 := mulAB x s 1000000 1000000 b3.1 b3.2 b1.1 b1.2
  have b6 := mulAB y c 1000000 1000000 b4.1 b4.2 b2.1 b2.2
  obtain ⟨p, ep⟩ : ∃ p, x * s = p := ⟨_, rfl⟩
  obtain ⟨q, eq⟩ : ∃ q, y * c = q := ⟨_, rfl⟩
  rw [ep] at e1 b5
  rw [eq] at e2 b6
  have HD1 := Lib.hid (fun w => sdiv_any p 1000000 w (by omega) (by omega) (by omega) (by omega) (by omega))
  have HD2 := Lib.hid (fun w => sdiv_any q 1000000 w (by omega) (by omega) (by omega) (by omega) (by omega))
  rw [← e1] at HD1
  rw [← e2] at HD2
  obtain ⟨st, est⟩ : ∃ st, st = stillOf lat n := ⟨_, rfl⟩
  obtain ⟨mv, emv⟩ : ∃ mv, mv = movesOf lat n := ⟨_, rfl⟩
  rw [← est] at HD1 ⊢
  rw [← emv] at HD2 ⊢
  obtain ⟨p0, p1⟩ := b5
  obtain ⟨q0, q1⟩ := b6
  clear h hdd eg hg es ec ex ey e1 e2 est emv b1 b2 b3 b4 hnb
  go_enter Tryd.func92, Tryd.ntmps92
  go_wp2_with (first
    | (go_at_call 112; refine (HD.out _).mono ?_; rintro e w1 ⟨rfl, hb⟩; have c0 := cell_below (a := ⟨w.heap.size, 0, none⟩) (v := .int .i64 0) (by go_cell) hb; have c1 := cell_below (a := ⟨w.heap.size, 1, none⟩) (v := .int .i64 0) (by go_cell) hb; have f0 := frozen_kept (a := ⟨w.heap.size, 0, none⟩) hb (by go_simp) (by simp); have f1 := frozen_kept (a := ⟨w.heap.size, 1, none⟩) hb (by go_simp) (by simp); have hz := lt_kept (b := w.heap.size) hb (by simp); have ac := Lib.hid (Below.next (a := w) (by go_grown) hb); clear hb)
    | (go_at_call 117; refine (HG.out _).mono ?_; rintro e w4 ⟨rfl, rfl⟩)
    | (go_at_call 115; ((with_reducible refine (HT1.out _).mono ?_); rintro e w3 ⟨rfl, hb⟩; have c0 := cell_below c0 hb; have c1 := cell_below c1 hb; have f0 := frozen_kept hb f0 hz; have f1 := frozen_kept hb f1 hz; have hz := lt_kept hb hz; have ac := Lib.hid (Below.next ac.out hb); clear hb))
    | (go_at_call 115; ((with_reducible refine (HT2.out _).mono ?_); rintro e w5 ⟨rfl, hb⟩; have c0 := cell_below c0 hb; have c1 := cell_below c1 hb; have f0 := frozen_kept hb f0 hz; have f1 := frozen_kept hb f1 hz; have hz := lt_kept hb hz; have ac := Lib.hid (Below.next ac.out hb); clear hb))
    | (go_at_call 114; refine (HSN.out _).mono ?_; rintro e w6 ⟨rfl, hb⟩; have c0 := cell_below c0 hb; have c1 := cell_below c1 hb; have f0 := frozen_kept hb f0 hz; have f1 := frozen_kept hb f1 hz; have hz := lt_kept hb hz; have ac := Lib.hid (Below.next ac.out hb); clear hb)
    | (go_at_call 113; ((with_reducible refine (HD1.out _).mono ?_); rintro e w7 ⟨rfl, rfl⟩))
    | (go_at_call 116; refine (HCS.out _).mono ?_; rintro e w8 ⟨rfl, hb⟩; have c0 := cell_below c0 hb; have c1 := cell_below c1 hb; have f0 := frozen_kept hb f0 hz; have f1 := frozen_kept hb f1 hz; have hz := lt_kept hb hz; have ac := Lib.hid (Below.next ac.out hb); clear hb)
    | (go_at_call 113; ((with_reducible refine (HD2.out _).mono ?_); rintro e w9 ⟨rfl, rfl⟩)))
  refine bodyPost_ret (v := .agg #[.int .i64 st, .int .i64 mv]) (by simp [results, Tryd.results92, go_sem, *]) rfl ⟨rfl, ?_⟩
  exact (ac.out.setCell (Nat.le_refl _) _).setCell (Nat.le_refl _) _
end Go.Proofs.YtagebpmciimcgabDoor
