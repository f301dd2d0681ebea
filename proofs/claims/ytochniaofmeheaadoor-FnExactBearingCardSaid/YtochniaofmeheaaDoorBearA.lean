/- The law of Bearing. -/
import Derived.Test.YtochniaofmeheaaDoorBearS
import Derived.Deep.RegionHeld3
namespace Go.Proofs.YtochniaofmeheaaDoor
open Go.ChangeShapes Go.WideShapes Go.ChangeAt Go.RowKit Pm

theorem sbearing_any (ax ay bx cy : Int) (w : World) :
    Calls Tryd.prog 20 #[.agg #[.int .i64 ax, .int .i64 ay], .agg #[.int .i64 bx, .int .i64 cy]] w fun e w' => ∃ r, BearIs ax ay bx cy r ∧ e = .returned (.int .i64 r) ∧ Below w.heap.size w w' := by
  cases h1 : inB 0 200000 [ax, ay]
  · have HD := Lib.hid (show BearIs ax ay bx cy 0 by unfold BearIs; rw [if_neg (by simp [okB, h1])])
    go_enter Tryd.func20, Tryd.ntmps20
    go_wp2_with (first
      | (go_at_call 31; refine (sok_any _ _ _).mono ?_; rintro e w1 ⟨rfl, hb⟩; have ac := Below.next (a := w) (by go_grown) hb; have c0 := cell_below (a := ⟨w.heap.size, 0, none⟩) (v := .int .i64 ax) (by go_cell) hb; have c1 := cell_below (a := ⟨w.heap.size, 1, none⟩) (v := .int .i64 ay) (by go_cell) hb; have c2 := cell_below (a := ⟨w.heap.size + 1, 0, none⟩) (v := .int .i64 bx) (by go_cell) hb; have c3 := cell_below (a := ⟨w.heap.size + 1, 1, none⟩) (v := .int .i64 cy) (by go_cell) hb; clear hb))
    go_ret
    exact ⟨0, HD.out, rfl, by go_grown⟩
  · cases h2 : inB 0 200000 [bx, cy]
    · have HD := Lib.hid (show BearIs ax ay bx cy 0 by unfold BearIs; rw [if_neg (by simp [okB, h2])])
      go_enter Tryd.func20, Tryd.ntmps20
      go_wp2_with (first
        | (go_at_call 31; refine (sok_any _ _ _).mono ?_; rintro e w1 ⟨rfl, hb⟩; have ac := Below.next (a := w) (by go_grown) hb; have c0 := cell_below (a := ⟨w.heap.size, 0, none⟩) (v := .int .i64 ax) (by go_cell) hb; have c1 := cell_below (a := ⟨w.heap.size, 1, none⟩) (v := .int .i64 ay) (by go_cell) hb; have c2 := cell_below (a := ⟨w.heap.size + 1, 0, none⟩) (v := .int .i64 bx) (by go_cell) hb; have c3 := cell_below (a := ⟨w.heap.size + 1, 1, none⟩) (v := .int .i64 cy) (by go_cell) hb; clear hb))
      go_ret
      exact ⟨0, HD.out, rfl, by go_grown⟩
    · have HD := Lib.hid (fun r (h : Best (prog (bx - ax) (cy - ay)) 360 r) => (show BearIs ax ay bx cy r by unfold BearIs; rw [if_pos (by simp [okB, h1, h2])]; exact h))
      have HC := Lib.hid (fun w => sl02bear_any ax ay bx cy w (vd_of h1) (vd_of h2))
      go_enter Tryd.func20, Tryd.ntmps20
      go_wp2_with (first
        | (go_at_call 31; refine (sok_any _ _ _).mono ?_; rintro e w1 ⟨rfl, hb⟩; have ac := Below.next (a := w) (by go_grown) hb; have c0 := cell_below (a := ⟨w.heap.size, 0, none⟩) (v := .int .i64 ax) (by go_cell) hb; have c1 := cell_below (a := ⟨w.heap.size, 1, none⟩) (v := .int .i64 ay) (by go_cell) hb; have c2 := cell_below (a := ⟨w.heap.size + 1, 0, none⟩) (v := .int .i64 bx) (by go_cell) hb; have c3 := cell_below (a := ⟨w.heap.size + 1, 1, none⟩) (v := .int .i64 cy) (by go_cell) hb; clear hb)
        | (go_at_call 41; refine (HC.out _).mono ?_; rintro e w1 ⟨r, hr, rfl, hb⟩; have ac := Below.next (a := w) (by go_grown) hb; clear hb))
      go_ret
      exact ⟨r, HD.out r hr, rfl, by go_grown⟩
end Go.Proofs.YtochniaofmeheaaDoor
