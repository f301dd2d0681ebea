/- Distances, of the model. -/
import Derived.Test.YthggoboljkdldabGreatDoorDist
namespace Go.Proofs.YthggoboljkdldabGreatDoor
open Go.ChangeShapes Go.WideShapes Go.ChangeAt Go.RowKit Pm

theorem sapart_any (ax ay bx cy : Int) (w : World) (ha : Vd ax ay) (hb : Vd bx cy) :
    Calls Tryz.prog 36 #[.agg #[.int .i64 ax, .int .i64 ay], .agg #[.int .i64 bx, .int .i64 cy]] w fun e w' => ∃ r, Root (sqd ax ay bx cy) r ∧ e = .returned (.int .i64 r) ∧ Below w.heap.size w w' := by
  have HS := Lib.hid (sqd_bd ha hb)
  have HA := Lib.hid ha
  have HB := Lib.hid hb
  clear ha hb
  go_enter Tryz.func36, Tryz.ntmps36
  go_wp2_with (first
    | (go_at_call 54; refine (ssquare_any _ _ _ _ _ HA.out HB.out).mono ?_; rintro e w1 ⟨rfl, hb⟩; have ac := Below.next (a := w) (by go_grown) hb; clear hb)
    | (go_at_call 53; refine (sroot_any _ _ (Int.le_trans HS.out (by decide))).mono ?_; rintro e w1 ⟨r, hr, rfl, rfl⟩))
  go_ret
  exact ⟨r, hr, rfl, by go_grown⟩

theorem sdistance_any (ax ay bx cy : Int) (w : World) :
    Calls Tryz.prog 14 #[.agg #[.int .i64 ax, .int .i64 ay], .agg #[.int .i64 bx, .int .i64 cy]] w fun e w' => ∃ r, DistIs ax ay bx cy r ∧ e = .returned (.int .i64 r) ∧ Below w.heap.size w w' := by
  by_cases h1 : inB 0 200000 [ax, ay] = true
  · by_cases h2 : inB 0 200000 [bx, cy] = true
    · have HA := Lib.hid (vd_of h1)
      have HB := Lib.hid (vd_of h2)
      have HD := Lib.hid (fun r (h : Root (sqd ax ay bx cy) r) => (show DistIs ax ay bx cy r by unfold DistIs okB; rw [if_pos (by simp [h1, h2])]; exact h))
      go_enter Tryz.func14, Tryz.ntmps14
      go_wp2_with (first
        | (go_at_call 31; refine (sok_any _ _ _).mono ?_; rintro e w1 ⟨rfl, hb⟩; have ac := Below.next (a := w) (by go_grown) hb; have c0 := cell_below (a := ⟨w.heap.size, 0, none⟩) (v := .int .i64 ax) (by go_cell) hb; have c1 := cell_below (a := ⟨w.heap.size, 1, none⟩) (v := .int .i64 ay) (by go_cell) hb; have c2 := cell_below (a := ⟨w.heap.size + 1, 0, none⟩) (v := .int .i64 bx) (by go_cell) hb; have c3 := cell_below (a := ⟨w.heap.size + 1, 1, none⟩) (v := .int .i64 cy) (by go_cell) hb; clear hb)
        | (go_at_call 36; refine (sapart_any _ _ _ _ _ HA.out HB.out).mono ?_; rintro e w1 ⟨r, hr, rfl, hb⟩; have ac := Below.next (a := w) (by go_grown) hb; clear hb))
      go_ret
      exact ⟨r, HD.out r hr, rfl, by go_grown⟩
    · have h2f : inB 0 200000 [bx, cy] = false := by simpa using h2
      have HD := Lib.hid (show DistIs ax ay bx cy 0 by unfold DistIs okB; rw [if_neg (by simp [h2f])])
      clear h2
      go_enter Tryz.func14, Tryz.ntmps14
      go_wp2_with (first
        | (go_at_call 31; refine (sok_any _ _ _).mono ?_; rintro e w1 ⟨rfl, hb⟩; have ac := Below.next (a := w) (by go_grown) hb; have c0 := cell_below (a := ⟨w.heap.size, 0, none⟩) (v := .int .i64 ax) (by go_cell) hb; have c1 := cell_below (a := ⟨w.heap.size, 1, none⟩) (v := .int .i64 ay) (by go_cell) hb; have c2 := cell_below (a := ⟨w.heap.size + 1, 0, none⟩) (v := .int .i64 bx) (by go_cell) hb; have c3 := cell_below (a := ⟨w.heap.size + 1, 1, none⟩) (v := .int .i64 cy) (by go_cell) hb; clear hb))
      go_ret
      exact ⟨0, HD.out, rfl, by go_grown⟩
  · have h1f : inB 0 200000 [ax, ay] = false := by simpa using h1
    have HD := Lib.hid (show DistIs ax ay bx cy 0 by unfold DistIs okB; rw [if_neg (by simp [h1f])])
    clear h1
    go_enter Tryz.func14, Tryz.ntmps14
    go_wp2_with (first
      | (go_at_call 31; refine (sok_any _ _ _).mono ?_; rintro e w1 ⟨rfl, hb⟩; have ac := Below.next (a := w) (by go_grown) hb; clear hb))
    go_ret
    exact ⟨0, HD.out, rfl, by go_grown⟩
end Go.Proofs.YthggoboljkdldabGreatDoor
