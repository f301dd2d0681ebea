/- Distances from a segment, of the program. -/
import Derived.Test.YthccbipjmheoaaaDivQ
import Derived.Test.YthccbipjmheoaaaFarM
import Derived.Test.YthccbipjmheoaaaSide
import Derived.Test.YthccbipjmheoaaaReg
import Derived.Deep.RegionHeld3
import Derived.Deep.Cut
import Derived.Deep.CutRange
namespace Go.Proofs.Ythccbipjmheoaaa
open Go.ChangeShapes Go.WideShapes Go.ChangeAt Go.RowKit Pm

/-- What it is to be the answer: the distance from the segment; 0 if a point is not valid. -/
def GapR (ax ay bx cy px py r : Int) : Prop := if allOk3 ax ay bx cy px py = true then GapIs ax ay bx cy px py r else r = 0
theorem GapR.one {ax ay bx cy px py r s : Int} (h : GapR ax ay bx cy px py r) (k : GapR ax ay bx cy px py s) : r = s := by
  unfold GapR at h k
  by_cases hc : allOk3 ax ay bx cy px py = true
  · rw [if_pos hc] at h k; exact h.one k
  · rw [if_neg hc] at h k; rw [h, k]

theorem qsq_any (n d : Int) (w : World) (n0 : -80000000000 ≤ n) (n1 : n ≤ 80000000000) (d0 : 0 < d) (d1 : d ≤ 80000000000) (hr : n * n ≤ 80000000000 * d) :
    Calls Try.prog 120 #[.int .i64 n, .int .i64 d] w fun e w' => ∃ q, QuoIs (n * n) d q ∧ e = .returned (.int .i64 q) ∧ Below w.heap.size w w' := by
  obtain ⟨m, hm⟩ : ∃ m : Nat, n.natAbs = m := ⟨_, rfl⟩
  have hg : greatestOf n [-n] = (m : Int) := by
    show (if n < -n then -n else n) = _
    split <;> omega
  have hsq : n * n = ((m * m : Nat) : Int) := by rw [← hm]; exact Int.natAbs_mul_self.symm
  have HM := Try.bits_Mul64 m m (by omega) (by omega)
  rw [hsq] at hr ⊢
  generalize m * m = M at *
  have HD := fun w => divq_any ((M / 18446744073709551616 : Nat) : Int) ((M % 18446744073709551616 : Nat) : Int) d w (by omega) (by omega) (by omega) (by omega) (by omega)
  have hq : ∀ q, QuoIs (((M / 18446744073709551616 : Nat) : Int) * 18446744073709551616 + ((M % 18446744073709551616 : Nat) : Int)) d q → QuoIs (M : Int) d q := by
    intro q h
    rw [show ((M / 18446744073709551616 : Nat) : Int) * 18446744073709551616 + ((M % 18446744073709551616 : Nat) : Int) = (M : Int) by omega] at h
    exact h
  have hh0 : 0 ≤ ((M / 18446744073709551616 : Nat) : Int) ∧ ((M / 18446744073709551616 : Nat) : Int) ≤ 18446744073709551615 := by omega
  have hl0 : 0 ≤ ((M % 18446744073709551616 : Nat) : Int) ∧ ((M % 18446744073709551616 : Nat) : Int) ≤ 18446744073709551615 := by omega
  generalize ((M / 18446744073709551616 : Nat) : Int) = H at *
  generalize ((M % 18446744073709551616 : Nat) : Int) = L at *
  obtain ⟨hh1, hh2⟩ := hh0
  obtain ⟨hl1, hl2⟩ := hl0
  have HM1 := Lib.hid HM
  have HD1 := Lib.hid HD
  have HQ := Lib.hid (fun q (h : QuoIs (H * 18446744073709551616 + L) d q) => (⟨hq q h, quo_room d0 (hq q h) hr⟩ : QuoIs (M : Int) d q ∧ q ≤ 80000000000))
  have hmb : (m : Int) ≤ 80000000000 := by omega
  clear HM HD hq hr hsq hm
  go_enter Try.func120, Try.ntmps120
  go_wp2_with (first
    | (go_at_call 94; refine (greatest_any _ _ _ _ (ints_one_at _ _ _ rfl)).mono ?_; rintro e w1 ⟨rfl, rfl⟩; rw [hg])
    | (go_at_call 127; refine (HM1.out _).mono ?_; rintro e w1 ⟨rfl, rfl⟩)
    | (go_at_call 128; refine (HD1.out _).mono ?_; rintro e w1 ⟨q, r, hq, rfl, hb⟩; obtain ⟨hq1, hq2⟩ := HQ.out q hq; have hq3 := hq1.1; have HQ1 := Lib.hid hq1; have ac := Below.next (a := w) (by go_grown) hb; clear hb hq hq1))
  go_ret
  exact ⟨q, HQ1.out, rfl, by go_grown⟩

theorem keepc6 {w : World} {a0 a1 a2 a3 a4 a5 : Addr} {v0 v1 v2 v3 v4 v5 : Value} {o : Obj} (h : w.cell? a0 = some v0 ∧ w.cell? a1 = some v1 ∧ w.cell? a2 = some v2 ∧ w.cell? a3 = some v3 ∧ w.cell? a4 = some v4 ∧ w.cell? a5 = some v5) : (w.alloc o).cell? a0 = some v0 ∧ (w.alloc o).cell? a1 = some v1 ∧ (w.alloc o).cell? a2 = some v2 ∧ (w.alloc o).cell? a3 = some v3 ∧ (w.alloc o).cell? a4 = some v4 ∧ (w.alloc o).cell? a5 = some v5 := by
  obtain ⟨h0, h1, h2, h3, h4, h5⟩ := h
  have hb : Below w.heap.size w (w.alloc o) := (Below.refl _ _).alloc (Nat.le_refl _) _
  exact ⟨cell_below h0 hb, cell_below h1 hb, cell_below h2 hb, cell_below h3 hb, cell_below h4 hb, cell_below h5 hb⟩
theorem drewc6 {w : World} {a0 a1 a2 a3 a4 a5 : Addr} {v0 v1 v2 v3 v4 v5 : Value} (h : w.cell? a0 = some v0 ∧ w.cell? a1 = some v1 ∧ w.cell? a2 = some v2 ∧ w.cell? a3 = some v3 ∧ w.cell? a4 = some v4 ∧ w.cell? a5 = some v5) : w.drew.cell? a0 = some v0 ∧ w.drew.cell? a1 = some v1 ∧ w.drew.cell? a2 = some v2 ∧ w.drew.cell? a3 = some v3 ∧ w.drew.cell? a4 = some v4 ∧ w.drew.cell? a5 = some v5 := h

theorem wayto_at (px py qx qy : Int) (w : World) (hp : Vd px py) (hq : Vd qx qy) :
    Calls Try.prog 116 #[.agg #[.int .i64 px, .int .i64 py], .agg #[.int .i64 qx, .int .i64 qy]] w fun e w' => e = .returned (.agg #[.int .i64 (qx - px), .int .i64 (qy - py)]) ∧ w' = ((w.alloc (.cells #[.int .i64 px, .int .i64 py] 33)).alloc (.cells #[.int .i64 qx, .int .i64 qy] 33)).alloc (.cells #[.int .i64 (qx - px), .int .i64 (qy - py)] 132) := by
  obtain ⟨p0, p1, p2, p3⟩ := hp
  obtain ⟨q0, q1, q2, q3⟩ := hq
  go_enter Try.func116, Try.ntmps116
  go_wp2
  go_returns
  exact ⟨rfl, rfl⟩

set_option maxRecDepth 100000 in
set_option maxHeartbeats 4000000 in
theorem gap_yes (ax ay bx cy px py : Int) (w : World) (hc : allOk3 ax ay bx cy px py = true) :
    Calls Try.prog 88 #[.agg #[.int .i64 ax, .int .i64 ay], .agg #[.int .i64 bx, .int .i64 cy], .agg #[.int .i64 px, .int .i64 py]] w fun e w' => ∃ r, GapR ax ay bx cy px py r ∧ e = .returned (.int .i64 r) ∧ Below w.heap.size w w' := by
  have e3 := all3 ax ay bx cy px py
  obtain ⟨ha, hb, hp⟩ := vd3 hc
  have HA := Lib.hid ha
  have HB := Lib.hid hb
  have HP := Lib.hid hp
  rw [hc] at e3
  have E3 := Lib.hid e3
  obtain ⟨al, hal⟩ : ∃ al, alongOf ax ay bx cy px py = al := ⟨_, rfl⟩
  obtain ⟨d, hd⟩ : ∃ d, sqd ax ay bx cy = d := ⟨_, rfl⟩
  obtain ⟨x, hx⟩ : ∃ x, crossOf ax ay bx cy px py = x := ⟨_, rfl⟩
  have HAL := Lib.hid (show (bx - ax) * (px - ax) + (cy - ay) * (py - ay) = al from hal)
  have HX := Lib.hid (show (bx - ax) * (py - ay) - (cy - ay) * (px - ax) = x from hx)
  have HSQ := Lib.hid (show (bx - ax) * (bx - ax) + (cy - ay) * (cy - ay) = d by rw [← hd]; unfold sqd; grind)
  have HG1 := Lib.hid (fun r (h : al ≤ 0) (k : DistIs ax ay px py r) => (show GapR ax ay bx cy px py r by
    unfold GapR GapIs; rw [if_pos hc, if_pos (by omega)]; unfold DistIs at k; rwa [if_pos (by simp [allOk3] at hc; simp [hc])] at k))
  have HG2 := Lib.hid (fun r (h : ¬ al ≤ 0) (h2 : d ≤ al) (k : DistIs bx cy px py r) => (show GapR ax ay bx cy px py r by
    unfold GapR GapIs; rw [if_pos hc, if_neg (by omega), if_pos (by omega)]; unfold DistIs at k; rwa [if_pos (by simp [allOk3] at hc; simp [hc])] at k))
  have HG3 := Lib.hid (fun q r (h : ¬ al ≤ 0) (h2 : ¬ d ≤ al) (k : QuoIs (x * x) d q) (k2 : Root q r) => (show GapR ax ay bx cy px py r by
    unfold GapR GapIs; rw [if_pos hc, if_neg (by omega), if_neg (by omega), hd, hx]; exact root_quo (by omega) k k2))
  have hxb := cross_bd hc
  rw [hx] at hxb
  have hdb := sqd_bd ha hb
  rw [hd] at hdb
  have hrm := gap_room (bx := bx) (cy := cy) (sqd_bd ha hp)
  rw [hx, hd] at hrm
  obtain ⟨x0, x1⟩ := hxb
  obtain ⟨a0, a1, a2, a3⟩ := ha
  obtain ⟨b0, b1, b2, b3⟩ := hb
  obtain ⟨p0, p1, p2, p3⟩ := hp
  clear e3 hc hal hd hx
  go_enter Try.func88, Try.ntmps88
  go_wp2_with (first
    | (go_at_call 81; refine (arepts_any _ _ _ (pts_three _ _ _ _ _ _ _ _ (by simp))).mono ?_; rintro e w1 ⟨rfl, hb⟩; rw [E3.out]; have ac := Below.next (a := w) (by go_grown) hb; have az := ac.size; have c0 := cell_below (a := ⟨w.heap.size, 0, none⟩) (v := .int .i64 ax) (by go_cell) hb; have c1 := cell_below (a := ⟨w.heap.size, 1, none⟩) (v := .int .i64 ay) (by go_cell) hb; have c2 := cell_below (a := ⟨w.heap.size + 1, 0, none⟩) (v := .int .i64 bx) (by go_cell) hb; have c3 := cell_below (a := ⟨w.heap.size + 1, 1, none⟩) (v := .int .i64 cy) (by go_cell) hb; have c4 := cell_below (a := ⟨w.heap.size + 1 + 1, 0, none⟩) (v := .int .i64 px) (by go_cell) hb; have c5 := cell_below (a := ⟨w.heap.size + 1 + 1, 1, none⟩) (v := .int .i64 py) (by go_cell) hb; have z0 : w.heap.size < w1.heap.size := (by have := hb.size; (try simp at this); omega); have z1 : w.heap.size + 1 < w1.heap.size := (by have := hb.size; (try simp at this); omega); have z2 : w.heap.size + 1 + 1 < w1.heap.size := (by have := hb.size; (try simp at this); omega); clear hb))
  go_cut [7, 8] from 16 to 21 (fun p q wx => ∃ b c : Nat, p = .pointer (some ⟨b, 0, none⟩) ∧ q = .pointer (some ⟨c, 0, none⟩) ∧ (wx.cell? ⟨b, 0, none⟩ = some (.int .i64 (bx - ax)) ∧ wx.cell? ⟨b, 1, none⟩ = some (.int .i64 (cy - ay)) ∧ wx.cell? ⟨c, 0, none⟩ = some (.int .i64 (px - ax)) ∧ wx.cell? ⟨c, 1, none⟩ = some (.int .i64 (py - ay))) ∧ Below w1.heap.size w1 wx)
  case first =>
    go_region_held3 (fun w' => w'.cell? ⟨w.heap.size, 0, none⟩ = some (.int .i64 ax) ∧ w'.cell? ⟨w.heap.size, 1, none⟩ = some (.int .i64 ay) ∧ w'.cell? ⟨w.heap.size + 1, 0, none⟩ = some (.int .i64 bx) ∧ w'.cell? ⟨w.heap.size + 1, 1, none⟩ = some (.int .i64 cy) ∧ w'.cell? ⟨w.heap.size + 1 + 1, 0, none⟩ = some (.int .i64 px) ∧ w'.cell? ⟨w.heap.size + 1 + 1, 1, none⟩ = some (.int .i64 py))
      (repeat (first | (with_reducible assumption) | (with_reducible exact ⟨c0, c1, c2, c3, c4, c5⟩) | (with_reducible refine drewc6 ?_) | (with_reducible refine keepc6 ?_)))
      (first
        | (go_at_call 116; refine (wayto_at _ _ _ _ _ HA.out (by first | exact HB.out | exact HP.out)).mono ?_; rintro e w2 ⟨rfl, rfl⟩))
    all_goals
      go_wp2_with (fail)
      go_meet
      refine ⟨_, _, rfl, rfl, ⟨?_, ?_, ?_, ?_⟩, ?_⟩ <;> (first | (go_cell; done) | (go_grown; done) | ((repeat (first | exact Below.refl _ _ | refine Below.drew ?_ | refine Below.alloc ?_ (by first | exact Nat.le_refl _ | (simp; done) | (simp; omega)) _)); done) | (simp; done) | (simp; omega))
  case rest =>
    obtain ⟨b, c, rfl, rfl, ⟨k0, k1, k2, k3⟩, hB⟩ := hcut
    have acB := Below.next ac hB
    have d0 := cell_below c0 hB
    have d1 := cell_below c1 hB
    have d2 := cell_below c2 hB
    have d3 := cell_below c3 hB
    have d4 := cell_below c4 hB
    have d5 := cell_below c5 hB
    clear c0 c1 c2 c3 c4 c5 hB z0 z1 z2
    go_wp2_with (go_at_call 117; refine (dot_any _ _ _ _ _ (by omega) (by omega) (by omega) (by omega) (by omega) (by omega) (by omega) (by omega)).mono ?_; rintro e w2 ⟨rfl, hb⟩; rw [HAL.out]; refine Hid.out ?_)
    refine Lib.hid ?_
    have ac2 := Below.next acB hb
    have j0 := cell_below k0 hb
    have j1 := cell_below k1 hb
    have j2 := cell_below k2 hb
    have j3 := cell_below k3 hb
    have t0 := cell_below d0 hb
    have t1 := cell_below d1 hb
    have t2 := cell_below d2 hb
    have t3 := cell_below d3 hb
    have t4 := cell_below d4 hb
    have t5 := cell_below d5 hb
    clear hb k0 k1 k2 k3 d0 d1 d2 d3 d4 d5
    by_cases h1 : al ≤ 0
    · have HV := Lib.hid (fun r k => HG1.out r h1 k)
      go_wp2_with (go_at_call 113; refine (distance_any _ _ _ _ _).mono ?_; rintro e w3 ⟨r, hr, rfl, hb⟩; have ac3 := Below.next ac2 hb; clear hb)
      go_ret
      exact ⟨r, HV.out r hr, rfl, ac3⟩
    · go_wp2_with (go_at_call 118; refine (square_any _ _ _ (by omega) (by omega) (by omega) (by omega)).mono ?_; rintro e w3 ⟨rfl, hb⟩; rw [HSQ.out]; refine Hid.out ?_)
      refine Lib.hid ?_
      have ac3 := Below.next ac2 hb
      have i0 := cell_below j0 hb
      have i1 := cell_below j1 hb
      have i2 := cell_below j2 hb
      have i3 := cell_below j3 hb
      have s2 := cell_below t2 hb
      have s3 := cell_below t3 hb
      have s4 := cell_below t4 hb
      have s5 := cell_below t5 hb
      clear hb j0 j1 j2 j3 t0 t1 t2 t3 t4 t5
      by_cases h2 : d ≤ al
      · have HV := Lib.hid (fun r k => HG2.out r (by omega) h2 k)
        go_wp2_with (go_at_call 113; refine (distance_any _ _ _ _ _).mono ?_; rintro e w4 ⟨r, hr, rfl, hb⟩; have ac4 := Below.next ac3 hb; clear hb)
        go_ret
        exact ⟨r, HV.out r hr, rfl, ac4⟩
      · have HV := Lib.hid (fun q r k k2 => HG3.out q r (by omega) (by omega) k k2)
        have hd0 : 0 < d := by omega
        clear s2 s3 s4 s5
        go_wp2_with (fail)
        go_region_held3 (fun w' => w'.cell? ⟨b, 0, none⟩ = some (.int .i64 (bx - ax)) ∧ w'.cell? ⟨b, 1, none⟩ = some (.int .i64 (cy - ay)) ∧ w'.cell? ⟨c, 0, none⟩ = some (.int .i64 (px - ax)) ∧ w'.cell? ⟨c, 1, none⟩ = some (.int .i64 (py - ay)) ∧ Below w.heap.size w w')
          (first | assumption | exact keep4 (by assumption) (by assumption) | exact drew4 (by assumption) | exact drew4 ⟨i0, i1, i2, i3, ac3⟩)
          (first
            | (go_at_call 121; refine (cross_any _ _ _ _ _ (by omega) (by omega) (by omega) (by omega) (by omega) (by omega) (by omega) (by omega)).mono ?_; rintro e w4 ⟨rfl, hb⟩; rw [HX.out])
            | (go_at_call 118; refine (square_any _ _ _ (by omega) (by omega) (by omega) (by omega)).mono ?_; rintro e w4 ⟨rfl, hb⟩; rw [HSQ.out])
            | (go_at_call 120; refine (qsq_any _ _ _ x0 x1 hd0 hdb hrm).mono ?_; rintro e w4 ⟨q, hq, rfl, hb⟩; have hqb := quo_room hd0 hq hrm; have HQ := Lib.hid hq; clear hq)
            | (go_at_call 119; refine (rootof_any _ _ (by omega)).mono ?_; rintro e w4 ⟨r, hr, rfl, rfl⟩; have HR := Lib.hid hr; clear hr))
        all_goals
          go_wp2
          go_ret
          exact ⟨_, HV.out _ _ HQ.out HR.out, rfl, keepB4 (by assumption)⟩

theorem gap_any (ax ay bx cy px py : Int) (w : World) :
    Calls Try.prog 88 #[.agg #[.int .i64 ax, .int .i64 ay], .agg #[.int .i64 bx, .int .i64 cy], .agg #[.int .i64 px, .int .i64 py]] w fun e w' => ∃ r, GapR ax ay bx cy px py r ∧ e = .returned (.int .i64 r) ∧ Below w.heap.size w w' := by
  by_cases hc : allOk3 ax ay bx cy px py = true
  · exact gap_yes ax ay bx cy px py w hc
  · have e3 := all3 ax ay bx cy px py
    have hf : allOk3 ax ay bx cy px py = false := by simpa using hc
    have hv := Lib.hid (show GapR ax ay bx cy px py 0 by unfold GapR; rw [if_neg hc])
    rw [hf] at e3
    have E3 := Lib.hid e3
    clear e3 hc hf
    go_enter Try.func88, Try.ntmps88
    go_wp2_with (first
      | (go_at_call 81; refine (arepts_any _ _ _ (pts_three _ _ _ _ _ _ _ _ (by simp))).mono ?_; rintro e w1 ⟨rfl, hb⟩; rw [E3.out]; have ac := Below.next (a := w) (by go_grown) hb; clear hb))
    go_ret
    exact ⟨0, hv.out, rfl, by go_grown⟩
end Go.Proofs.Ythccbipjmheoaaa
