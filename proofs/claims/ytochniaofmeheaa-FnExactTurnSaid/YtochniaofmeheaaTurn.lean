/- Turns, of the program and of the model. -/
import Derived.Test.YtochniaofmeheaaAng
import Derived.Test.YtochniaofmeheaaOk
namespace Go.Proofs.Ytochniaofmeheaa
open Go.ChangeShapes Go.WideShapes Go.ChangeAt Go.RowKit Pm

theorem turn_any (a b : Int) (w : World) :
    Calls Try.prog 15 #[.int .i64 a, .int .i64 b] w fun e w' => e = .returned (.int .i64 (turnR a b)) ∧ Below w.heap.size w w' := by
  have ha := ang_bd a
  have hb := ang_bd b
  have hd := ang_bd (ang a - ang b)
  have hv : Hid (leastOf (ang (ang a - ang b)) [360 - ang (ang a - ang b)] = turnR a b) := Lib.hid (by unfold turnR leastOf leastOf; rfl)
  have H2 := fun x => ints_one_at w x w.heap.size rfl
  generalize turnR a b = t at *
  go_enter Try.func15, Try.ntmps15
  go_wp2_with (first | (go_at_call 31; refine (angle_any _ _).mono ?_; rintro e w1 ⟨rfl, rfl⟩) | (go_at_call 32; refine (least_any _ _ _ _ (H2 _)).mono ?_; rintro e w1 ⟨rfl, rfl⟩))
  go_ret
  exact ⟨ret_i hv.out, by go_grown⟩

theorem sturn_any (a b : Int) (w : World) :
    Calls Try.prog 30 #[.int .i64 a, .int .i64 b] w fun e w' => e = .returned (.int .i64 (turnR a b)) ∧ w = w' := by
  have ha := ang_bd a
  have hb := ang_bd b
  have hd := ang_bd (ang a - ang b)
  have hv : Hid (turnR a b = if 180 < ang (ang a - ang b) then 360 - ang (ang a - ang b) else ang (ang a - ang b)) := Lib.hid (by unfold turnR; split <;> split <;> omega)
  by_cases h : 180 < ang (ang a - ang b)
  · have hv2 := Lib.hid (hv.out.trans (if_pos h))
    clear hv
    go_enter Try.func30, Try.ntmps30
    go_wp2_with (go_at_call 48; refine (sangle_any _ _).mono ?_; rintro e w1 ⟨rfl, rfl⟩)
    go_ret
    exact ⟨ret_i hv2.out.symm, rfl⟩
  · have hv2 := Lib.hid (hv.out.trans (if_neg h))
    clear hv
    go_enter Try.func30, Try.ntmps30
    go_wp2_with (go_at_call 48; refine (sangle_any _ _).mono ?_; rintro e w1 ⟨rfl, rfl⟩)
    go_ret
    exact ⟨ret_i hv2.out.symm, rfl⟩

end Go.Proofs.Ytochniaofmeheaa
