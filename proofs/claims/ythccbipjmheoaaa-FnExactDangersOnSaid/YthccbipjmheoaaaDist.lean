/- Distances, of the program and of the model. -/
import Derived.Test.YthccbipjmheoaaaSq
import Derived.Test.YthccbipjmheoaaaRoot
namespace Go.Proofs.Ythccbipjmheoaaa
open Go.ChangeShapes Go.WideShapes Go.ChangeAt Go.RowKit Pm

/-- What it is to be the distance of two points, rounded down; 0 if one is not valid. -/
def DistIs (ax ay bx cy r : Int) : Prop := if (okB (ax, ay) && okB (bx, cy)) = true then Root (sqd ax ay bx cy) r else r = 0
theorem DistIs.one {ax ay bx cy r s : Int} (h : DistIs ax ay bx cy r) (k : DistIs ax ay bx cy s) : r = s := by
  unfold DistIs at h k
  by_cases hc : (okB (ax, ay) && okB (bx, cy)) = true
  · rw [if_pos hc] at h k; exact h.one k
  · rw [if_neg hc] at h k; rw [h, k]

theorem distance_any (ax ay bx cy : Int) (w : World) :
    Calls Try.prog 113 #[.agg #[.int .i64 ax, .int .i64 ay], .agg #[.int .i64 bx, .int .i64 cy]] w fun e w' => ∃ r, DistIs ax ay bx cy r ∧ e = .returned (.int .i64 r) ∧ Below w.heap.size w w' := by
  have e2 : [(ax, ay), (bx, cy)].all okB = (okB (ax, ay) && okB (bx, cy)) := by simp
  by_cases hc : (okB (ax, ay) && okB (bx, cy)) = true
  · have ha : Vd ax ay := vd_of (by simp at hc; exact hc.1)
    have hb : Vd bx cy := vd_of (by simp at hc; exact hc.2)
    have HS := Lib.hid (sqd_bd ha hb)
    have HD := Lib.hid (fun r (h : Root (sqd ax ay bx cy) r) => (show DistIs ax ay bx cy r by unfold DistIs; rw [if_pos hc]; exact h))
    have he : (bx - ax) * (bx - ax) + (cy - ay) * (cy - ay) = sqd ax ay bx cy := by unfold sqd; grind
    rw [hc] at e2
    have E2 := Lib.hid e2
    have HE := Lib.hid he
    obtain ⟨p0, p1, p2, p3⟩ := id ha
    obtain ⟨q0, q1, q2, q3⟩ := id hb
    have HA := Lib.hid ha
    have HB := Lib.hid hb
    clear e2 hc he ha hb
    go_enter Try.func113, Try.ntmps113
    go_wp2_with (first
      | (go_at_call 81; refine (arepts_any _ _ _ (pts_two _ _ _ _ _ _ (by simp))).mono ?_; rintro e w1 ⟨rfl, hb⟩; rw [E2.out]; have ac := Below.next (a := w) (by go_grown) hb; have c0 := cell_below (a := ⟨w.heap.size, 0, none⟩) (v := .int .i64 ax) (by go_cell) hb; have c1 := cell_below (a := ⟨w.heap.size, 1, none⟩) (v := .int .i64 ay) (by go_cell) hb; have c2 := cell_below (a := ⟨w.heap.size + 1, 0, none⟩) (v := .int .i64 bx) (by go_cell) hb; have c3 := cell_below (a := ⟨w.heap.size + 1, 1, none⟩) (v := .int .i64 cy) (by go_cell) hb; clear hb)
      | (go_at_call 116; refine (wayto_any _ _ _ _ _ HA.out HB.out).mono ?_; rintro e w1 ⟨rfl, hb⟩; have ac := Below.next (a := w) (by go_grown) hb; clear hb)
      | (go_at_call 118; refine (square_any _ _ _ (by omega) (by omega) (by omega) (by omega)).mono ?_; rintro e w1 ⟨rfl, hb⟩; rw [HE.out]; have ac := Below.next (a := w) (by go_grown) hb; clear hb)
      | (go_at_call 119; refine (rootof_any _ _ (Int.le_trans HS.out (by decide))).mono ?_; rintro e w1 ⟨r, hr, rfl, rfl⟩))
    go_ret
    exact ⟨r, HD.out r hr, rfl, by go_grown⟩
  · have hf : (okB (ax, ay) && okB (bx, cy)) = false := by simpa using hc
    have HD := Lib.hid (show DistIs ax ay bx cy 0 by unfold DistIs; rw [if_neg hc])
    rw [hf] at e2
    have E2 := Lib.hid e2
    clear e2 hc hf
    go_enter Try.func113, Try.ntmps113
    go_wp2_with (first
      | (go_at_call 81; refine (arepts_any _ _ _ (pts_two _ _ _ _ _ _ (by simp))).mono ?_; rintro e w1 ⟨rfl, hb⟩; rw [E2.out]; have ac := Below.next (a := w) (by go_grown) hb; clear hb))
    go_ret
    exact ⟨0, HD.out, rfl, by go_grown⟩
end Go.Proofs.Ythccbipjmheoaaa
