/- The law of Move. -/
import Derived.Test.YtochniaofmeheaaDoorMvI
namespace Go.Proofs.YtochniaofmeheaaDoor
open Go.ChangeShapes Go.WideShapes Go.ChangeAt Go.RowKit Pm

set_option maxHeartbeats 1000000 in
theorem move_law (px py be d : Int) (w : World) (hL : laidMetH Tryd.prog Rows.fnExactMoveRow.laid w) :
    Calls Tryd.prog 7 #[.agg #[.int .i64 px, .int .i64 py], .int .i64 be, .int .i64 d] w fun e w' => e = .returned (.bool true) ∧ Below w.heap.size w w' := by
  have HS := Lib.hid (sines_of hL)
  clear hL
  have H1 := Lib.hid (smove_any px py be d)
  have H2 := Lib.hid (fun w h => move_any px py be d w h)
  generalize mvPX px py be d = X at *
  generalize mvPY px py be d = Y at *
  generalize mvE px py be d = E at *
  go_enter Tryd.func7, Tryd.ntmps7
  go_wp2_with (first
    | (go_at_call 21; refine (topoint_any _ _ _).mono ?_; rintro e w1 ⟨rfl, hb⟩; have ac := Below.next (a := w) (by go_grown) hb; have az := ac.size; have hz0 : w.heap.size < w1.heap.size := (by have := hb.size; (try simp at this); omega); have c0 := cell_below (a := ⟨w.heap.size, 0, none⟩) (v := .int .i64 px) (by go_cell) hb; have c1 := cell_below (a := ⟨w.heap.size, 1, none⟩) (v := .int .i64 py) (by go_cell) hb; have sz := hb.size; (try simp at sz); (first | (have hq := new2 hb; obtain ⟨q0, q1, q2, q3, q4⟩ := hq) | (have hq := new2d hb; obtain ⟨q0, q1, q2, q3, q4⟩ := hq) | (have hq := carry2 hb q0 q1 q2 q3 q4; obtain ⟨q0, q1, q2, q3, q4⟩ := hq) | skip); (try simp only [World.size_alloc] at q0 q1 q2 q3 q4); clear hb)
    | (go_at_call 22; refine (H1.out _).mono ?_; rintro e w1 ⟨rfl, hb⟩; have ac := Below.next (a := w) (by go_grown) hb; have az := ac.size; have hz0 : w.heap.size < w1.heap.size := (by have := hb.size; (try simp at this); omega); have c0 := cell_below (a := ⟨w.heap.size, 0, none⟩) (v := .int .i64 px) (by go_cell) hb; have c1 := cell_below (a := ⟨w.heap.size, 1, none⟩) (v := .int .i64 py) (by go_cell) hb; have sz := hb.size; (try simp at sz); (first | (have hq := new2 hb; obtain ⟨q0, q1, q2, q3, q4⟩ := hq) | (have hq := new2d hb; obtain ⟨q0, q1, q2, q3, q4⟩ := hq) | (have hq := carry2 hb q0 q1 q2 q3 q4; obtain ⟨q0, q1, q2, q3, q4⟩ := hq) | skip); (try simp only [World.size_alloc] at q0 q1 q2 q3 q4); clear hb)
    | (go_at_call 14; refine (H2.out _ (HS.out.below ac)).mono ?_; rintro e w1 ⟨rfl, hb⟩; have ac := Below.next (a := w) (by go_grown) hb; have az := ac.size; have hz0 : w.heap.size < w1.heap.size := (by have := hb.size; (try simp at this); omega); have sz := hb.size; (try simp at sz); (first | (have hq := new2 hb; obtain ⟨q0, q1, q2, q3, q4⟩ := hq) | (have hq := new2d hb; obtain ⟨q0, q1, q2, q3, q4⟩ := hq) | (have hq := carry2 hb q0 q1 q2 q3 q4; obtain ⟨q0, q1, q2, q3, q4⟩ := hq) | skip); (try simp only [World.size_alloc] at q0 q1 q2 q3 q4); clear hb)
    | (go_at_call 23; refine (eqpt_any _ _ _).mono ?_; rintro e w1 ⟨rfl, hb⟩; have ac := Below.next (a := w) (by go_grown) hb; have az := ac.size; have hz0 : w.heap.size < w1.heap.size := (by have := hb.size; (try simp at this); omega); have sz := hb.size; (try simp at sz); (first | (have hq := new2 hb; obtain ⟨q0, q1, q2, q3, q4⟩ := hq) | (have hq := new2d hb; obtain ⟨q0, q1, q2, q3, q4⟩ := hq) | (have hq := carry2 hb q0 q1 q2 q3 q4; obtain ⟨q0, q1, q2, q3, q4⟩ := hq) | skip); (try simp only [World.size_alloc] at q0 q1 q2 q3 q4); clear hb))
  go_ret
  exact ⟨rfl, by go_grown⟩
end Go.Proofs.YtochniaofmeheaaDoor
