/- Names, lengths and least periods of fog signals: the program's and the model's. -/
import Derived.Test.YthheacebafleeacGreatDoorFogY
import Derived.Test.YthheacebafleeacGreatDoorFogS
import Derived.Test.YthheacebafleeacGreatDoorClx
namespace Go.Proofs.YthheacebafleeacGreatDoor
open Go.ChangeShapes Go.WideShapes Go.ChangeAt Go.RowKit Pm

set_option maxRecDepth 100000 in
theorem fogname_any (k : Int) (w : World) (hF : FogsAt w) :
    Calls Tryz.prog 29 #[.int .i64 k] w fun e w' => e = .returned (.string (fogNm k)) ∧ Below w.heap.size w w' := by
  have H := Lib.hid (fogrow_any k w hF)
  generalize fogNm k = s at *
  generalize fogLen k = f at *
  have hf0 : ∀ w, (Instr.field 46 (.agg #[.string s, .int .i64 f]) 0).run Tryz.prog w = .ok (.string s) w := fun _ => by kernel_rfl
  clear hF
  go_enter Tryz.func29, Tryz.ntmps29
  go_wp2_with (go_at_call 42; refine H.out.mono ?_; rintro e w' ⟨rfl, hb⟩)
  go_ret
  exact ⟨rfl, hb⟩
end Go.Proofs.YthheacebafleeacGreatDoor
