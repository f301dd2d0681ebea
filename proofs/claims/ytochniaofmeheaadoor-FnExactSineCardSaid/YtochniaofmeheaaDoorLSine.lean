/- The law of Sine. -/
import Derived.Test.YtochniaofmeheaaDoorSin
namespace Go.Proofs.YtochniaofmeheaaDoor
open Go.ChangeShapes Go.WideShapes Go.ChangeAt Go.RowKit Pm

theorem sine_law (d : Int) (w : World) (hL : laidMetH Tryd.prog Rows.fnExactSineRow.laid w) :
    Calls Tryd.prog 4 #[.int .i64 d] w fun e w' => e = .returned (.bool true) ∧ Below w.heap.size w w' := by
  have HS := Lib.hid (sines_of hL)
  clear hL
  go_enter Tryd.func4, Tryd.ntmps4
  go_wp2_with (first
    | (go_at_call 18; go_in)
    | (go_at_call 39; refine (ssine_any _ _).mono ?_; rintro e w1 ⟨rfl, hb⟩; have ac := Below.next (a := w) (by go_grown) hb)
    | (go_at_call 16; refine (sine_any _ _ (HS.out.below ac)).mono ?_; rintro e w1 ⟨rfl, hb⟩; have ac2 := Below.next (a := w) (by go_grown) hb))
  go_ret
  exact ⟨rfl, by go_grown⟩
end Go.Proofs.YtochniaofmeheaaDoor
