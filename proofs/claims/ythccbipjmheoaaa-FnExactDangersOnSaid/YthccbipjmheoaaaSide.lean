/- Sides of a line, of the program and of the model. -/
import Derived.Test.YthccbipjmheoaaaDistS
import Derived.Deep.RegionHeld3
namespace Go.Proofs.Ythccbipjmheoaaa
open Go.ChangeShapes Go.WideShapes Go.ChangeAt Go.RowKit Pm

def allOk3 (ax ay bx cy px py : Int) : Bool := okB (ax, ay) && (okB (bx, cy) && okB (px, py))
/-- On which side of a line a point lies; 0 if one of them is not valid. -/
def sideR (ax ay bx cy px py : Int) : Int := if allOk3 ax ay bx cy px py = true then sgn (crossOf ax ay bx cy px py) else 0
theorem all3 (ax ay bx cy px py : Int) : [(ax, ay), (bx, cy), (px, py)].all okB = allOk3 ax ay bx cy px py := by simp [allOk3]
theorem vd3 {ax ay bx cy px py : Int} (h : allOk3 ax ay bx cy px py = true) : Vd ax ay ∧ Vd bx cy ∧ Vd px py := by
  simp [allOk3] at h
  exact ⟨vd_of h.1, vd_of h.2.1, vd_of h.2.2⟩
theorem cross_bd {ax ay bx cy px py : Int} (h : allOk3 ax ay bx cy px py = true) : -80000000000 ≤ crossOf ax ay bx cy px py ∧ crossOf ax ay bx cy px py ≤ 80000000000 := by
  obtain ⟨⟨a0, a1, a2, a3⟩, ⟨b0, b1, b2, b3⟩, ⟨p0, p1, p2, p3⟩⟩ := vd3 h
  have h1 := mul_bd (a := bx - ax) (b := py - ay) (A := 200000) (B := 200000) (by omega) (by omega) (by omega) (by omega)
  have h2 := mul_bd (a := cy - ay) (b := px - ax) (A := 200000) (B := 200000) (by omega) (by omega) (by omega) (by omega)
  unfold crossOf; omega

theorem cmp_any (x : Int) (w : World) :
    Calls Try.prog 87 #[.int .i64 x, .int .i64 0] w fun e w' => e = .returned (.int .i64 (sgn x)) ∧ w = w' := by
  have hx : (x != x) = false := by simp
  by_cases h1 : x < 0
  · have hv := Lib.hid (show sgn x = -1 by unfold sgn; rw [if_neg (by omega), if_pos h1])
    go_enter Try.func87, Try.ntmps87
    go_wp2
    go_ret
    exact ⟨ret_i hv.out.symm, rfl⟩
  · by_cases h2 : 0 < x
    · have hv := Lib.hid (show sgn x = 1 by unfold sgn; rw [if_pos h2])
      go_enter Try.func87, Try.ntmps87
      go_wp2
      go_ret
      exact ⟨ret_i hv.out.symm, rfl⟩
    · obtain rfl : x = 0 := by omega
      go_enter Try.func87, Try.ntmps87
      go_wp2
      go_ret
      exact ⟨rfl, rfl⟩

theorem sideof_any (ax ay bx cy px py : Int) (w : World) :
    Calls Try.prog 90 #[.agg #[.int .i64 ax, .int .i64 ay], .agg #[.int .i64 bx, .int .i64 cy], .agg #[.int .i64 px, .int .i64 py]] w fun e w' => e = .returned (.int .i64 (sideR ax ay bx cy px py)) ∧ Below w.heap.size w w' := by
  have e3 := all3 ax ay bx cy px py
  by_cases hc : allOk3 ax ay bx cy px py = true
  · have hv := Lib.hid (show sgn (crossOf ax ay bx cy px py) = sideR ax ay bx cy px py by unfold sideR; rw [if_pos hc])
    obtain ⟨ha, hb, hp⟩ := vd3 hc
    have HA := Lib.hid ha
    have HB := Lib.hid hb
    have HP := Lib.hid hp
    rw [hc] at e3
    have E3 := Lib.hid e3
    have HX := Lib.hid (show (bx - ax) * (py - ay) - (cy - ay) * (px - ax) = crossOf ax ay bx cy px py from rfl)
    obtain ⟨a0, a1, a2, a3⟩ := ha
    obtain ⟨b0, b1, b2, b3⟩ := hb
    obtain ⟨p0, p1, p2, p3⟩ := hp
    clear e3 hc
    go_enter Try.func90, Try.ntmps90
    go_wp2_with (first
      | (go_at_call 81; refine (arepts_any _ _ _ (pts_three _ _ _ _ _ _ _ _ (by simp))).mono ?_; rintro e w1 ⟨rfl, hb⟩; rw [E3.out]; have ac := Below.next (a := w) (by go_grown) hb; have az := ac.size; have c0 := cell_below (a := ⟨w.heap.size, 0, none⟩) (v := .int .i64 ax) (by go_cell) hb; have c1 := cell_below (a := ⟨w.heap.size, 1, none⟩) (v := .int .i64 ay) (by go_cell) hb; have c2 := cell_below (a := ⟨w.heap.size + 1, 0, none⟩) (v := .int .i64 bx) (by go_cell) hb; have c3 := cell_below (a := ⟨w.heap.size + 1, 1, none⟩) (v := .int .i64 cy) (by go_cell) hb; have c4 := cell_below (a := ⟨w.heap.size + 1 + 1, 0, none⟩) (v := .int .i64 px) (by go_cell) hb; have c5 := cell_below (a := ⟨w.heap.size + 1 + 1, 1, none⟩) (v := .int .i64 py) (by go_cell) hb; clear hb))
    go_region_held3 (fun w' => w'.cell? ⟨w.heap.size, 0, none⟩ = some (.int .i64 ax) ∧ w'.cell? ⟨w.heap.size, 1, none⟩ = some (.int .i64 ay) ∧ w'.cell? ⟨w.heap.size + 1, 0, none⟩ = some (.int .i64 bx) ∧ w'.cell? ⟨w.heap.size + 1, 1, none⟩ = some (.int .i64 cy) ∧ w'.cell? ⟨w.heap.size + 1 + 1, 0, none⟩ = some (.int .i64 px) ∧ w'.cell? ⟨w.heap.size + 1 + 1, 1, none⟩ = some (.int .i64 py) ∧ Below w.heap.size w w')
      (first | assumption | exact keep6 (by assumption) (by assumption) | exact drew6 (by assumption) | exact ⟨by go_cell, by go_cell, by go_cell, by go_cell, by go_cell, by go_cell, by go_grown⟩)
      (first
        | (go_at_call 116; refine (wayto_any _ _ _ _ _ HA.out (by first | exact HB.out | exact HP.out)).mono ?_; rintro e w1 ⟨rfl, hb⟩)
        | (go_at_call 121; refine (cross_any _ _ _ _ _ (by omega) (by omega) (by omega) (by omega) (by omega) (by omega) (by omega) (by omega)).mono ?_; rintro e w1 ⟨rfl, hb⟩; rw [HX.out])
        | (go_at_call 87; refine (cmp_any _ _).mono ?_; rintro e w1 ⟨rfl, rfl⟩))
    go_wp2
    go_ret
    exact ⟨ret_i hv.out, keepB6 (by assumption)⟩
  · have hf : allOk3 ax ay bx cy px py = false := by simpa using hc
    have hv := Lib.hid (show sideR ax ay bx cy px py = 0 by unfold sideR; rw [if_neg hc])
    rw [hf] at e3
    have E3 := Lib.hid e3
    clear e3 hc hf
    go_enter Try.func90, Try.ntmps90
    go_wp2_with (first
      | (go_at_call 81; refine (arepts_any _ _ _ (pts_three _ _ _ _ _ _ _ _ (by simp))).mono ?_; rintro e w1 ⟨rfl, hb⟩; rw [E3.out]; have ac := Below.next (a := w) (by go_grown) hb; have az := ac.size; have c0 := cell_below (a := ⟨w.heap.size, 0, none⟩) (v := .int .i64 ax) (by go_cell) hb; have c1 := cell_below (a := ⟨w.heap.size, 1, none⟩) (v := .int .i64 ay) (by go_cell) hb; have c2 := cell_below (a := ⟨w.heap.size + 1, 0, none⟩) (v := .int .i64 bx) (by go_cell) hb; have c3 := cell_below (a := ⟨w.heap.size + 1, 1, none⟩) (v := .int .i64 cy) (by go_cell) hb; have c4 := cell_below (a := ⟨w.heap.size + 1 + 1, 0, none⟩) (v := .int .i64 px) (by go_cell) hb; have c5 := cell_below (a := ⟨w.heap.size + 1 + 1, 1, none⟩) (v := .int .i64 py) (by go_cell) hb; clear hb))
    go_ret
    exact ⟨ret_i hv.out.symm, by go_grown⟩
end Go.Proofs.Ythccbipjmheoaaa
