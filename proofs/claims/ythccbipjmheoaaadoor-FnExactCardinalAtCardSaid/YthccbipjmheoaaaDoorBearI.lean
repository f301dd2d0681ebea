/- Bearings, of the program and of the model. -/
import Derived.Test.YthccbipjmheoaaaDoorBear
namespace Go.Proofs.YthccbipjmheoaaaDoor
open Go.ChangeShapes Go.WideShapes Go.ChangeAt Go.RowKit Pm

/-- What it is to be the bearing of a point from another one; 0 if one is not valid. -/
def BearIs (ax ay bx cy r : Int) : Prop := if (okB (ax, ay) && okB (bx, cy)) = true then Best (prog (bx - ax) (cy - ay)) 360 r else r = 0
theorem BearIs.one {ax ay bx cy r s : Int} (h : BearIs ax ay bx cy r) (k : BearIs ax ay bx cy s) : r = s := by
  unfold BearIs at h k
  by_cases hc : (okB (ax, ay) && okB (bx, cy)) = true
  · rw [if_pos hc] at h k; exact h.one k
  · rw [if_neg hc] at h k; rw [h, k]
theorem best_none : Best (prog 0 0) 360 0 := ⟨by omega, by omega, fun i _ _ => by unfold prog; omega, fun i h0 h1 => by omega⟩

theorem bearing_any (ax ay bx cy : Int) (w : World) (hS : SinesAt w) :
    Calls Tryd.prog 24 #[.agg #[.int .i64 ax, .int .i64 ay], .agg #[.int .i64 bx, .int .i64 cy]] w fun e w' => ∃ r, BearIs ax ay bx cy r ∧ e = .returned (.int .i64 r) ∧ Below w.heap.size w w' := by
  have e2 : [(ax, ay), (bx, cy)].all okB = (okB (ax, ay) && okB (bx, cy)) := by simp
  by_cases hc : (okB (ax, ay) && okB (bx, cy)) = true
  · have ha : Vd ax ay := vd_of (by simp at hc; exact hc.1)
    have hb : Vd bx cy := vd_of (by simp at hc; exact hc.2)
    have HD := Lib.hid (fun r (h : Best (prog (bx - ax) (cy - ay)) 360 r) => (show BearIs ax ay bx cy r by unfold BearIs; rw [if_pos hc]; exact h))
    rw [hc] at e2
    have E2 := Lib.hid e2
    have HA := Lib.hid ha
    have HB := Lib.hid hb
    have HS := Lib.hid hS
    by_cases heq : ax = bx ∧ ay = cy
    · obtain ⟨rfl, rfl⟩ := heq
      have H0 := Lib.hid (HD.out 0 (by rw [Int.sub_self, Int.sub_self]; exact best_none))
      clear e2 hc ha hb hS HD
      go_enter Tryd.func24, Tryd.ntmps24
      go_wp2_with (first
        | (go_at_call 40; refine (arepts_any _ _ _ (pts_two _ _ _ _ _ _ (by simp))).mono ?_; rintro e w1 ⟨rfl, hb⟩; rw [E2.out]; have ac := Below.next (a := w) (by go_grown) hb; have az := ac.size; have c0 := cell_below (a := ⟨w.heap.size, 0, none⟩) (v := .int .i64 ax) (by go_cell) hb; have c1 := cell_below (a := ⟨w.heap.size, 1, none⟩) (v := .int .i64 ay) (by go_cell) hb; have c2 := cell_below (a := ⟨w.heap.size + 1, 0, none⟩) (v := .int .i64 ax) (by go_cell) hb; have c3 := cell_below (a := ⟨w.heap.size + 1, 1, none⟩) (v := .int .i64 ay) (by go_cell) hb; clear hb))
      go_ret
      exact ⟨0, H0.out, rfl, by go_grown⟩
    · obtain ⟨p0, p1, p2, p3⟩ := id ha
      obtain ⟨q0, q1, q2, q3⟩ := id hb
      clear e2 hc ha hb hS
      by_cases hx : ax = bx
      · have h1 : (ax == bx) = true := by simp [hx]
        have h2 : (ay == cy) = false := by simp; omega
        clear heq hx
        go_enter Tryd.func24, Tryd.ntmps24
        go_wp2_with (first
          | (go_at_call 40; refine (arepts_any _ _ _ (pts_two _ _ _ _ _ _ (by simp))).mono ?_; rintro e w1 ⟨rfl, hb⟩; rw [E2.out]; have ac := Below.next (a := w) (by go_grown) hb; have az := ac.size; have c0 := cell_below (a := ⟨w.heap.size, 0, none⟩) (v := .int .i64 ax) (by go_cell) hb; have c1 := cell_below (a := ⟨w.heap.size, 1, none⟩) (v := .int .i64 ay) (by go_cell) hb; have c2 := cell_below (a := ⟨w.heap.size + 1, 0, none⟩) (v := .int .i64 bx) (by go_cell) hb; have c3 := cell_below (a := ⟨w.heap.size + 1, 1, none⟩) (v := .int .i64 cy) (by go_cell) hb; clear hb)
          | (go_at_call 42; refine (wayto_any _ _ _ _ _ HA.out HB.out).mono ?_; rintro e w1 ⟨rfl, hb⟩; have ac := Below.next (a := w) (by go_grown) hb; have az := ac.size; clear hb)
          | (go_at_call 41; refine (first_any _ _ _ _ (HS.out.below ac) (by omega) (by omega) (by omega) (by omega) (by omega) (by omega)).mono ?_; rintro e w2 ⟨r, hr, rfl, hb⟩; have ac2 := Below.next (a := w) (by go_grown) hb; clear hb))
        go_ret
        exact ⟨r, HD.out r hr, rfl, by go_grown⟩
      · have h1 : (ax == bx) = false := by simp [hx]
        clear heq hx
        go_enter Tryd.func24, Tryd.ntmps24
        go_wp2_with (first
          | (go_at_call 40; refine (arepts_any _ _ _ (pts_two _ _ _ _ _ _ (by simp))).mono ?_; rintro e w1 ⟨rfl, hb⟩; rw [E2.out]; have ac := Below.next (a := w) (by go_grown) hb; have az := ac.size; have c0 := cell_below (a := ⟨w.heap.size, 0, none⟩) (v := .int .i64 ax) (by go_cell) hb; have c1 := cell_below (a := ⟨w.heap.size, 1, none⟩) (v := .int .i64 ay) (by go_cell) hb; have c2 := cell_below (a := ⟨w.heap.size + 1, 0, none⟩) (v := .int .i64 bx) (by go_cell) hb; have c3 := cell_below (a := ⟨w.heap.size + 1, 1, none⟩) (v := .int .i64 cy) (by go_cell) hb; clear hb)
          | (go_at_call 42; refine (wayto_any _ _ _ _ _ HA.out HB.out).mono ?_; rintro e w1 ⟨rfl, hb⟩; have ac := Below.next (a := w) (by go_grown) hb; have az := ac.size; clear hb)
          | (go_at_call 41; refine (first_any _ _ _ _ (HS.out.below ac) (by omega) (by omega) (by omega) (by omega) (by omega) (by omega)).mono ?_; rintro e w2 ⟨r, hr, rfl, hb⟩; have ac2 := Below.next (a := w) (by go_grown) hb; clear hb))
        go_ret
        exact ⟨r, HD.out r hr, rfl, by go_grown⟩
  · have hf : (okB (ax, ay) && okB (bx, cy)) = false := by simpa using hc
    have HD := Lib.hid (show BearIs ax ay bx cy 0 by unfold BearIs; rw [if_neg hc])
    rw [hf] at e2
    have E2 := Lib.hid e2
    clear e2 hc hf hS
    go_enter Tryd.func24, Tryd.ntmps24
    go_wp2_with (first
      | (go_at_call 40; refine (arepts_any _ _ _ (pts_two _ _ _ _ _ _ (by simp))).mono ?_; rintro e w1 ⟨rfl, hb⟩; rw [E2.out]; have ac := Below.next (a := w) (by go_grown) hb; have az := ac.size; have c0 := cell_below (a := ⟨w.heap.size, 0, none⟩) (v := .int .i64 ax) (by go_cell) hb; have c1 := cell_below (a := ⟨w.heap.size, 1, none⟩) (v := .int .i64 ay) (by go_cell) hb; have c2 := cell_below (a := ⟨w.heap.size + 1, 0, none⟩) (v := .int .i64 bx) (by go_cell) hb; have c3 := cell_below (a := ⟨w.heap.size + 1, 1, none⟩) (v := .int .i64 cy) (by go_cell) hb; clear hb))
    go_ret
    exact ⟨0, HD.out, rfl, by go_grown⟩
end Go.Proofs.YthccbipjmheoaaaDoor
