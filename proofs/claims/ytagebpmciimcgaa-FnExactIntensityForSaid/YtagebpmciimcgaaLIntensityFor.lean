/- The law of IntensityFor. -/
import Derived.Test.YtagebpmciimcgaaRngS
namespace Go.Proofs.Ytagebpmciimcgaa
open Go.ChangeShapes Go.WideShapes Go.ChangeAt Go.RowKit Pm

theorem intensityfor_law (x y : Int) (w : World) :
    Calls Try.prog 11 #[.int .i64 x, .int .i64 y] w fun e w' => e = .returned (.bool true) ∧ Below w.heap.size w w' := by
  obtain ⟨a, c, h⟩ := intIs_ex x y
  have HS := Lib.hid (fun w => sintensity_any x y a c w h)
  have HI := Lib.hid (fun w => intensity_any x y a c w h)
  clear h
  go_enter Try.func11, Try.ntmps11
  go_wp2_with (first
    | (go_at_call 31; refine (HS.out _).mono ?_; rintro e w1 ⟨rfl, hb⟩; have ac := Lib.hid hb; clear hb)
    | (go_at_call 20; refine (HI.out _).mono ?_; rintro e w2 ⟨rfl, hb⟩; have ac2 := Lib.hid (Below.next ac.out hb); clear hb))
  go_ret
  exact ⟨rfl, ac2.out⟩
end Go.Proofs.Ytagebpmciimcgaa
