/- The law of Turn. -/
import Derived.Test.YtochniaofmeheaaTurn
namespace Go.Proofs.Ytochniaofmeheaa
open Go.ChangeShapes Go.WideShapes Go.ChangeAt Go.RowKit Pm

theorem turn_law (a b : Int) (w : World) :
    Calls Try.prog 5 #[.int .i64 a, .int .i64 b] w fun e w' => e = .returned (.bool true) ∧ Below w.heap.size w w' := by
  go_enter Try.func5, Try.ntmps5
  go_wp2_with (first
    | (go_at_call 14; go_in)
    | (go_at_call 30; refine (sturn_any _ _ _).mono ?_; rintro e w1 ⟨rfl, rfl⟩)
    | (go_at_call 15; refine (turn_any _ _ _).mono ?_; rintro e w1 ⟨rfl, hb⟩))
  go_ret
  exact ⟨rfl, by go_grown⟩
end Go.Proofs.Ytochniaofmeheaa
