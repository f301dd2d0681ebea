/- The law of ValidPoint. -/
import Derived.Test.YtochniaofmeheaaOk
import Derived.Outline
namespace Go.Proofs.Ytochniaofmeheaa
open Go.ChangeShapes Go.WideShapes Go.ChangeAt Go.RowKit Pm

theorem validpoint_law (x y : Int) (w : World) :
    Calls Try.prog 3 #[.agg #[.int .i64 x, .int .i64 y]] w fun e w' => e = .returned (.bool true) ∧ Below w.heap.size w w' := by
  go_enter Try.func3, Try.ntmps3
  go_wp2_with (first
    | (go_at_call 10; refine (topoint_any _ _ _).mono ?_; rintro e w1 ⟨rfl, hb⟩; have ac := Below.next (a := w) (by go_grown) hb; have c0 := cell_below (a := ⟨w.heap.size, 0, none⟩) (v := .int .i64 x) (by first | assumption | simp) hb; have c1 := cell_below (a := ⟨w.heap.size, 1, none⟩) (v := .int .i64 y) (by first | assumption | simp) hb; clear hb)
    | (go_at_call 9; refine (svalid_any _ _ _).mono ?_; rintro e w1 ⟨rfl, hb⟩; have ac := Below.next (a := w) (by go_grown) hb; have c0 := cell_below (a := ⟨w.heap.size, 0, none⟩) (v := .int .i64 x) (by first | assumption | simp) hb; have c1 := cell_below (a := ⟨w.heap.size, 1, none⟩) (v := .int .i64 y) (by first | assumption | simp) hb; clear hb)
    | (go_at_call 11; refine (ok_any _ _ _).mono ?_; rintro e w1 ⟨rfl, hb⟩; have ac := Below.next (a := w) (by go_grown) hb; clear hb))
  go_ret
  exact ⟨rfl, by go_grown⟩
end Go.Proofs.Ytochniaofmeheaa
