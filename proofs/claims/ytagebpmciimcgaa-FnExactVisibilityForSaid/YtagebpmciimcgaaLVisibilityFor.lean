/- The law of VisibilityFor. -/
import Derived.Test.YtagebpmciimcgaaRngS
namespace Go.Proofs.Ytagebpmciimcgaa
open Go.ChangeShapes Go.WideShapes Go.ChangeAt Go.RowKit Pm

theorem visibilityfor_law (x y : Int) (w : World) :
    Calls Try.prog 12 #[.int .i64 x, .int .i64 y] w fun e w' => e = .returned (.bool true) ∧ Below w.heap.size w w' := by
  obtain ⟨a, c, h⟩ := visIs_ex x y
  have HS := Lib.hid (fun w => svisibility_any x y a c w h)
  have HI := Lib.hid (fun w => visibility_any x y a c w h)
  clear h
  go_enter Try.func12, Try.ntmps12
  go_wp2_with (first
    | (go_at_call 32; refine (HS.out _).mono ?_; rintro e w1 ⟨rfl, hb⟩; have ac := Lib.hid hb; clear hb)
    | (go_at_call 21; refine (HI.out _).mono ?_; rintro e w2 ⟨rfl, hb⟩; have ac2 := Lib.hid (Below.next ac.out hb); clear hb))
  go_ret
  exact ⟨rfl, ac2.out⟩
end Go.Proofs.Ytagebpmciimcgaa
