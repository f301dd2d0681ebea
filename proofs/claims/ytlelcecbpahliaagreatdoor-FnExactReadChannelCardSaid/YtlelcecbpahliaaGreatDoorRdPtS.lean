/- Reading a point, by the model; both readings agree. -/
import Derived.Test.YtlelcecbpahliaaGreatDoorRdPt
namespace Go.Proofs.YtlelcecbpahliaaGreatDoor
open Go.ChangeShapes Go.WideShapes Go.ChangeAt Go.RowKit Pm

/-- What a point is read as, of the pieces of a text. -/
def rpV : List ByteArray → (Int × Int) × Bool
  | [p, q] => if (canB p.data.toList && canB q.data.toList && inB 0 200000 [numP p, numP q]) = true then ((numP p, numP q), true) else ((0, 0), false)
  | _ => ((0, 0), false)
theorem rp_no (ps : List ByteArray) (h : ps.length ≠ 2) : rpV ps = ((0, 0), false) := by
  match ps, h with
  | [], _ => rfl
  | [_], _ => rfl
  | [_, _], h => exact absurd rfl h
  | _ :: _ :: _ :: _, _ => rfl
theorem rpV_two (p q : ByteArray) : rpV [p, q] = if (canB p.data.toList && canB q.data.toList && inB 0 200000 [numP p, numP q]) = true then ((numP p, numP q), true) else ((0, 0), false) := rfl
theorem rzV_two (b : Bool) (x y : Int) : rzV b [x, y] = if (b && inB 0 200000 [x, y]) = true then ((x, y), true) else ((0, 0), false) := rfl
theorem two_of {α : Type} (l : List α) (h : l.length = 2) : ∃ a b, l = [a, b] := by
  match l, h with
  | [a, b], _ => exact ⟨a, b, rfl⟩

theorem rz_rp (s : ByteArray) : rzV (rlB s) (rlZ s) = rpV (cutS 44 s) := by
  by_cases hd : s.data.toList = [45]
  · obtain ⟨h1, h2⟩ := rl_dash hd
    rw [h1, h2, rz_no true [] (by simp), rp_no _ (by unfold cutS; rw [hd, cutAt_miss _ _ (by decide)]; simp)]
  · cases hc : decide ((cutS 44 s).length ≤ 64) && (cutS 44 s).all numOk
    · obtain ⟨h1, h2⟩ := rl_no hd hc
      rw [h1, h2, rz_false]
      by_cases hl : (cutS 44 s).length = 2
      · obtain ⟨p, q, hpq⟩ := two_of _ hl
        rw [hpq] at hc ⊢
        rw [rpV_two, if_neg]
        intro hk
        simp only [Bool.and_eq_true] at hk
        obtain ⟨⟨k1, k2⟩, k3⟩ := hk
        have hv : (0 ≤ numP p ∧ numP p ≤ 200000) ∧ 0 ≤ numP q ∧ numP q ≤ 200000 := by simpa [inB] using k3
        have n1 : numOk p = true := by unfold numOk; rw [k1]; simp [inB]; unfold numP at hv; omega
        have n2 : numOk q = true := by unfold numOk; rw [k2]; simp [inB]; unfold numP at hv; omega
        simp [n1, n2] at hc
      · rw [rp_no _ hl]
    · rw [Bool.and_eq_true] at hc
      obtain ⟨h1, h2⟩ := rl_yes hd (of_decide_eq_true hc.1) hc.2
      rw [h1, h2]
      by_cases hl : (cutS 44 s).length = 2
      · obtain ⟨p, q, hpq⟩ := two_of _ hl
        rw [hpq] at hc ⊢
        have hn := hc.2
        simp only [List.all_cons, List.all_nil, Bool.and_true, Bool.and_eq_true] at hn
        have k1 : canB p.data.toList = true := by have := hn.1; unfold numOk at this; rw [Bool.and_eq_true] at this; exact this.1
        have k2 : canB q.data.toList = true := by have := hn.2; unfold numOk at this; rw [Bool.and_eq_true] at this; exact this.1
        show rzV true [numP p, numP q] = rpV [p, q]
        rw [rzV_two, rpV_two, k1, k2]
        rfl
      · rw [rp_no _ hl, rz_no _ _ (by simpa using hl)]

/-- Is a piece a number's form? -/
def canS (p : ByteArray) : Bool := canB p.data.toList
theorem snumS (p : ByteArray) (w : World) (h : p.size ≤ maxLen) : Calls Tryz.prog 58 #[.string p] w fun e w' => e = .returned (.tuple #[.int .i64 (numP p), .bool (canS p)]) ∧ w = w' := snum_any p w h

theorem sread_len (s : ByteArray) (ps : List ByteArray) (w : World) (h : ps.length ≠ 2) (hI : Calls Tryz.prog 57 #[.string s, .int .u8 44] (w.alloc (.cells #[.int .i64 0, .int .i64 0] 44)) (OwnRet 9 (strV ps) (w.alloc (.cells #[.int .i64 0, .int .i64 0] 44)))) :
    Calls Tryz.prog 64 #[.string s] w fun e w' => e = .returned (.tuple #[.agg #[.int .i64 (rpV ps).1.1, .int .i64 (rpV ps).1.2], .bool (rpV ps).2]) ∧ Below w.heap.size w w' := by
  have HI := Lib.hid hI
  have HV := Lib.hid (rp_no ps h)
  have hl : ((ps.length : Int) == 2) = false := by simp; omega
  have hl0 : ((0 : Int) == 2) = false := by decide
  clear hI h
  go_enter Tryz.func64, Tryz.ntmps64
  go_wp2_with (go_at_call 57; refine HI.out.mono ?_; rintro e w1 ⟨v, rfl, ho, hb⟩; refine Hid.out ?_)
  refine Lib.hid ?_
  have ac := Below.next (a := w) (by go_grown) hb
  have c0 := cell_below (a := ⟨w.heap.size, 0, none⟩) (v := .int .i64 0) (by go_cell) hb
  have c1 := cell_below (a := ⟨w.heap.size, 1, none⟩) (v := .int .i64 0) (by go_cell) hb
  have f0 := frozen_belowR (a := ⟨w.heap.size, 0, none⟩) (by go_simp) (by simp) hb
  have f1 := frozen_belowR (a := ⟨w.heap.size, 1, none⟩) (by go_simp) (by simp) hb
  have s0 : w.heap.size < w1.heap.size := by have := hb.size; simp at this; omega
  have ho2 := own_mono ho (show w.heap.size ≤ _ by simp)
  clear hb ho
  rw [strV_len] at ho2
  rcases own_form ho2 with ⟨rfl, _⟩ | ⟨g, cap, rfl, _⟩
  · clear ho2
    go_wp2_with (fail)
    refine bodyPost_ret (v := .tuple #[.agg #[.int .i64 0, .int .i64 0], .bool false]) (by simp [results, Tryz.results64, go_sem, *]) rfl ⟨by rw [HV.out], by go_grown⟩
  · clear ho2
    go_wp2_with (fail)
    refine bodyPost_ret (v := .tuple #[.agg #[.int .i64 0, .int .i64 0], .bool false]) (by simp [results, Tryz.results64, go_sem, *]) rfl ⟨by rw [HV.out], by go_grown⟩

set_option maxRecDepth 100000 in
set_option maxHeartbeats 600000 in
theorem sread_two0 (s p q : ByteArray) (w : World) (hp : p.size ≤ maxLen) (hq : q.size ≤ maxLen) (k1 : canS p = false) (hI : Calls Tryz.prog 57 #[.string s, .int .u8 44] (w.alloc (.cells #[.int .i64 0, .int .i64 0] 44)) (OwnRet 9 (strV [p, q]) (w.alloc (.cells #[.int .i64 0, .int .i64 0] 44)))) :
    Calls Tryz.prog 64 #[.string s] w fun e w' => e = .returned (.tuple #[.agg #[.int .i64 (rpV [p, q]).1.1, .int .i64 (rpV [p, q]).1.2], .bool (rpV [p, q]).2]) ∧ Below w.heap.size w w' := by
  have HI := Lib.hid hI
  have c1 : canB p.data.toList = false := k1
  have HV := Lib.hid (show rpV [p, q] = ((0, 0), false) by simp [rpV, c1])
  have HN := Lib.hid snumS
  clear hI c1
  go_enter Tryz.func64, Tryz.ntmps64
  go_wp2_with (go_at_call 57; refine HI.out.mono ?_; rintro e w1 ⟨v, rfl, ho, hb⟩; refine Hid.out ?_)
  refine Lib.hid ?_
  have ac := Below.next (a := w) (by go_grown) hb
  have c0 := cell_below (a := ⟨w.heap.size, 0, none⟩) (v := .int .i64 0) (by go_cell) hb
  have c1 := cell_below (a := ⟨w.heap.size, 1, none⟩) (v := .int .i64 0) (by go_cell) hb
  have f0 := frozen_belowR (a := ⟨w.heap.size, 0, none⟩) (by go_simp) (by simp) hb
  have f1 := frozen_belowR (a := ⟨w.heap.size, 1, none⟩) (by go_simp) (by simp) hb
  have s0 : w.heap.size < w1.heap.size := by have := hb.size; simp at this; omega
  have ho2 := own_mono ho (show w.heap.size ≤ _ by simp)
  clear hb ho
  have ho3 : w1.ownsRow w.heap.size 9 1 v 2 (strV [p, q]) := ho2
  clear ho2
  obtain ⟨g, cap, rfl, _, _⟩ := ho3.form (by omega)
  have j0 := ho3.cellAt 0 (by simp)
  have j1 := ho3.cellAt 1 (by simp)
  simp [strV] at j0 j1
  clear ho3
  have hz1 : w.heap.size < w1.heap.size + 1 := by omega
  go_wp2_with (first
    | (go_at_call 58; refine (HN.out _ _ (by assumption)).mono ?_; rintro e w2 ⟨rfl, rfl⟩)
    | (go_at_call 105; refine (sok_any _ _ _).mono ?_; rintro e w3 ⟨rfl, hb⟩; have ac4 := Below.next (a := w) (by go_grown) hb; have c4 := cell_below (a := ⟨w.heap.size, 0, none⟩) (v := .int .i64 0) (by go_cell) hb; have c5 := cell_below (a := ⟨w.heap.size, 1, none⟩) (v := .int .i64 0) (by go_cell) hb; have f4 := frozen_belowR (a := ⟨w.heap.size, 0, none⟩) (by go_simp) (by first | omega | (simp; omega)) hb; have f5 := frozen_belowR (a := ⟨w.heap.size, 1, none⟩) (by go_simp) (by first | omega | (simp; omega)) hb; have hq := new2 hb; obtain ⟨q0, q1, q2, q3, q4⟩ := hq))
  refine bodyPost_ret (v := .tuple #[.agg #[.int .i64 0, .int .i64 0], .bool false]) (by simp [results, Tryz.results64, go_sem, *]) rfl ⟨by rw [HV.out], by go_grown⟩

set_option maxRecDepth 100000 in
set_option maxHeartbeats 600000 in
theorem sread_two1 (s p q : ByteArray) (w : World) (hp : p.size ≤ maxLen) (hq : q.size ≤ maxLen) (k1 : canS p = true) (k2 : canS q = false) (hI : Calls Tryz.prog 57 #[.string s, .int .u8 44] (w.alloc (.cells #[.int .i64 0, .int .i64 0] 44)) (OwnRet 9 (strV [p, q]) (w.alloc (.cells #[.int .i64 0, .int .i64 0] 44)))) :
    Calls Tryz.prog 64 #[.string s] w fun e w' => e = .returned (.tuple #[.agg #[.int .i64 (rpV [p, q]).1.1, .int .i64 (rpV [p, q]).1.2], .bool (rpV [p, q]).2]) ∧ Below w.heap.size w w' := by
  have HI := Lib.hid hI
  have c1 : canB p.data.toList = true := k1
  have c2 : canB q.data.toList = false := k2
  have HV := Lib.hid (show rpV [p, q] = ((0, 0), false) by simp [rpV, c1, c2])
  have HN := Lib.hid snumS
  clear hI c1 c2
  go_enter Tryz.func64, Tryz.ntmps64
  go_wp2_with (go_at_call 57; refine HI.out.mono ?_; rintro e w1 ⟨v, rfl, ho, hb⟩; refine Hid.out ?_)
  refine Lib.hid ?_
  have ac := Below.next (a := w) (by go_grown) hb
  have c0 := cell_below (a := ⟨w.heap.size, 0, none⟩) (v := .int .i64 0) (by go_cell) hb
  have c1 := cell_below (a := ⟨w.heap.size, 1, none⟩) (v := .int .i64 0) (by go_cell) hb
  have f0 := frozen_belowR (a := ⟨w.heap.size, 0, none⟩) (by go_simp) (by simp) hb
  have f1 := frozen_belowR (a := ⟨w.heap.size, 1, none⟩) (by go_simp) (by simp) hb
  have s0 : w.heap.size < w1.heap.size := by have := hb.size; simp at this; omega
  have ho2 := own_mono ho (show w.heap.size ≤ _ by simp)
  clear hb ho
  have ho3 : w1.ownsRow w.heap.size 9 1 v 2 (strV [p, q]) := ho2
  clear ho2
  obtain ⟨g, cap, rfl, _, _⟩ := ho3.form (by omega)
  have j0 := ho3.cellAt 0 (by simp)
  have j1 := ho3.cellAt 1 (by simp)
  simp [strV] at j0 j1
  clear ho3
  have hz1 : w.heap.size < w1.heap.size + 1 := by omega
  go_wp2_with (first
    | (go_at_call 58; refine (HN.out _ _ (by assumption)).mono ?_; rintro e w2 ⟨rfl, rfl⟩)
    | (go_at_call 105; refine (sok_any _ _ _).mono ?_; rintro e w3 ⟨rfl, hb⟩; have ac4 := Below.next (a := w) (by go_grown) hb; have c4 := cell_below (a := ⟨w.heap.size, 0, none⟩) (v := .int .i64 0) (by go_cell) hb; have c5 := cell_below (a := ⟨w.heap.size, 1, none⟩) (v := .int .i64 0) (by go_cell) hb; have f4 := frozen_belowR (a := ⟨w.heap.size, 0, none⟩) (by go_simp) (by first | omega | (simp; omega)) hb; have f5 := frozen_belowR (a := ⟨w.heap.size, 1, none⟩) (by go_simp) (by first | omega | (simp; omega)) hb; have hq := new2 hb; obtain ⟨q0, q1, q2, q3, q4⟩ := hq))
  refine bodyPost_ret (v := .tuple #[.agg #[.int .i64 0, .int .i64 0], .bool false]) (by simp [results, Tryz.results64, go_sem, *]) rfl ⟨by rw [HV.out], by go_grown⟩

set_option maxRecDepth 100000 in
set_option maxHeartbeats 600000 in
theorem sread_two2 (s p q : ByteArray) (w : World) (hp : p.size ≤ maxLen) (hq : q.size ≤ maxLen) (k1 : canS p = true) (k2 : canS q = true) (k3 : inB 0 200000 [numP p, numP q] = false) (hI : Calls Tryz.prog 57 #[.string s, .int .u8 44] (w.alloc (.cells #[.int .i64 0, .int .i64 0] 44)) (OwnRet 9 (strV [p, q]) (w.alloc (.cells #[.int .i64 0, .int .i64 0] 44)))) :
    Calls Tryz.prog 64 #[.string s] w fun e w' => e = .returned (.tuple #[.agg #[.int .i64 (rpV [p, q]).1.1, .int .i64 (rpV [p, q]).1.2], .bool (rpV [p, q]).2]) ∧ Below w.heap.size w w' := by
  have HI := Lib.hid hI
  have c1 : canB p.data.toList = true := k1
  have c2 : canB q.data.toList = true := k2
  have HV := Lib.hid (show rpV [p, q] = ((0, 0), false) by simp [rpV, c1, c2, k3])
  have HN := Lib.hid snumS
  clear hI c1 c2
  go_enter Tryz.func64, Tryz.ntmps64
  go_wp2_with (go_at_call 57; refine HI.out.mono ?_; rintro e w1 ⟨v, rfl, ho, hb⟩; refine Hid.out ?_)
  refine Lib.hid ?_
  have ac := Below.next (a := w) (by go_grown) hb
  have c0 := cell_below (a := ⟨w.heap.size, 0, none⟩) (v := .int .i64 0) (by go_cell) hb
  have c1 := cell_below (a := ⟨w.heap.size, 1, none⟩) (v := .int .i64 0) (by go_cell) hb
  have f0 := frozen_belowR (a := ⟨w.heap.size, 0, none⟩) (by go_simp) (by simp) hb
  have f1 := frozen_belowR (a := ⟨w.heap.size, 1, none⟩) (by go_simp) (by simp) hb
  have s0 : w.heap.size < w1.heap.size := by have := hb.size; simp at this; omega
  have ho2 := own_mono ho (show w.heap.size ≤ _ by simp)
  clear hb ho
  have ho3 : w1.ownsRow w.heap.size 9 1 v 2 (strV [p, q]) := ho2
  clear ho2
  obtain ⟨g, cap, rfl, _, _⟩ := ho3.form (by omega)
  have j0 := ho3.cellAt 0 (by simp)
  have j1 := ho3.cellAt 1 (by simp)
  simp [strV] at j0 j1
  clear ho3
  have hz1 : w.heap.size < w1.heap.size + 1 := by omega
  go_wp2_with (first
    | (go_at_call 58; refine (HN.out _ _ (by assumption)).mono ?_; rintro e w2 ⟨rfl, rfl⟩)
    | (go_at_call 105; refine (sok_any _ _ _).mono ?_; rintro e w3 ⟨rfl, hb⟩; have ac4 := Below.next (a := w) (by go_grown) hb; have c4 := cell_below (a := ⟨w.heap.size, 0, none⟩) (v := .int .i64 0) (by go_cell) hb; have c5 := cell_below (a := ⟨w.heap.size, 1, none⟩) (v := .int .i64 0) (by go_cell) hb; have f4 := frozen_belowR (a := ⟨w.heap.size, 0, none⟩) (by go_simp) (by first | omega | (simp; omega)) hb; have f5 := frozen_belowR (a := ⟨w.heap.size, 1, none⟩) (by go_simp) (by first | omega | (simp; omega)) hb; have hq := new2 hb; obtain ⟨q0, q1, q2, q3, q4⟩ := hq))
  refine bodyPost_ret (v := .tuple #[.agg #[.int .i64 0, .int .i64 0], .bool false]) (by simp [results, Tryz.results64, go_sem, *]) rfl ⟨by rw [HV.out], by go_grown⟩

set_option maxRecDepth 100000 in
set_option maxHeartbeats 600000 in
theorem sread_two3 (s p q : ByteArray) (w : World) (hp : p.size ≤ maxLen) (hq : q.size ≤ maxLen) (k1 : canS p = true) (k2 : canS q = true) (k3 : inB 0 200000 [numP p, numP q] = true) (hI : Calls Tryz.prog 57 #[.string s, .int .u8 44] (w.alloc (.cells #[.int .i64 0, .int .i64 0] 44)) (OwnRet 9 (strV [p, q]) (w.alloc (.cells #[.int .i64 0, .int .i64 0] 44)))) :
    Calls Tryz.prog 64 #[.string s] w fun e w' => e = .returned (.tuple #[.agg #[.int .i64 (rpV [p, q]).1.1, .int .i64 (rpV [p, q]).1.2], .bool (rpV [p, q]).2]) ∧ Below w.heap.size w w' := by
  have HI := Lib.hid hI
  have c1 : canB p.data.toList = true := k1
  have c2 : canB q.data.toList = true := k2
  have HV := Lib.hid (show rpV [p, q] = ((numP p, numP q), true) by simp [rpV, c1, c2, k3])
  have HN := Lib.hid snumS
  clear hI c1 c2
  go_enter Tryz.func64, Tryz.ntmps64
  go_wp2_with (go_at_call 57; refine HI.out.mono ?_; rintro e w1 ⟨v, rfl, ho, hb⟩; refine Hid.out ?_)
  refine Lib.hid ?_
  have ac := Below.next (a := w) (by go_grown) hb
  have c0 := cell_below (a := ⟨w.heap.size, 0, none⟩) (v := .int .i64 0) (by go_cell) hb
  have c1 := cell_below (a := ⟨w.heap.size, 1, none⟩) (v := .int .i64 0) (by go_cell) hb
  have f0 := frozen_belowR (a := ⟨w.heap.size, 0, none⟩) (by go_simp) (by simp) hb
  have f1 := frozen_belowR (a := ⟨w.heap.size, 1, none⟩) (by go_simp) (by simp) hb
  have s0 : w.heap.size < w1.heap.size := by have := hb.size; simp at this; omega
  have ho2 := own_mono ho (show w.heap.size ≤ _ by simp)
  clear hb ho
  have ho3 : w1.ownsRow w.heap.size 9 1 v 2 (strV [p, q]) := ho2
  clear ho2
  obtain ⟨g, cap, rfl, _, _⟩ := ho3.form (by omega)
  have j0 := ho3.cellAt 0 (by simp)
  have j1 := ho3.cellAt 1 (by simp)
  simp [strV] at j0 j1
  clear ho3
  have hz1 : w.heap.size < w1.heap.size + 1 := by omega
  go_wp2_with (first
    | (go_at_call 58; refine (HN.out _ _ (by assumption)).mono ?_; rintro e w2 ⟨rfl, rfl⟩)
    | (go_at_call 105; refine (sok_any _ _ _).mono ?_; rintro e w3 ⟨rfl, hb⟩; have ac4 := Below.next (a := w) (by go_grown) hb; have c4 := cell_below (a := ⟨w.heap.size, 0, none⟩) (v := .int .i64 0) (by go_cell) hb; have c5 := cell_below (a := ⟨w.heap.size, 1, none⟩) (v := .int .i64 0) (by go_cell) hb; have f4 := frozen_belowR (a := ⟨w.heap.size, 0, none⟩) (by go_simp) (by first | omega | (simp; omega)) hb; have f5 := frozen_belowR (a := ⟨w.heap.size, 1, none⟩) (by go_simp) (by first | omega | (simp; omega)) hb; have hq := new2 hb; obtain ⟨q0, q1, q2, q3, q4⟩ := hq))
  refine bodyPost_ret (v := .tuple #[.agg #[.int .i64 (numP p), .int .i64 (numP q)], .bool true]) (by simp [results, Tryz.results64, go_sem, *]) rfl ⟨by rw [HV.out], by go_grown⟩
end Go.Proofs.YtlelcecbpahliaaGreatDoor
