/- Turns, of the program and of the model. -/
import Derived.Test.YtochniaofmeheaaDoorAng
import Derived.Test.YtochniaofmeheaaDoorOk
namespace Go.Proofs.YtochniaofmeheaaDoor
open Go.ChangeShapes Go.WideShapes Go.ChangeAt Go.RowKit Pm

theorem turn_any (a b : Int) (w : World) :
    Calls Tryd.prog 12 #[.int .i64 a, .int .i64 b] w fun e w' => e = .returned (.int .i64 (turnR a b)) ∧ Below w.heap.size w w' := by
  have ha := ang_bd a
  have hb := ang_bd b
  have hd := ang_bd (ang a - ang b)
  have hv : Hid (leastOf (ang (ang a - ang b)) [360 - ang (ang a - ang b)] = turnR a b) := Lib.hid (by unfold turnR leastOf leastOf; rfl)
  have H2 := fun x => ints_one_at w x w.heap.size rfl
  generalize turnR a b = t at *
  go_enter Tryd.func12, Tryd.ntmps12
  go_wp2_with (first | (go_at_call 32; refine (angle_any _ _).mono ?_; rintro e w1 ⟨rfl, rfl⟩) | (go_at_call 33; refine (least_any _ _ _ _ (H2 _)).mono ?_; rintro e w1 ⟨rfl, rfl⟩))
  go_ret
  exact ⟨ret_i hv.out, by go_grown⟩


end Go.Proofs.YtochniaofmeheaaDoor
