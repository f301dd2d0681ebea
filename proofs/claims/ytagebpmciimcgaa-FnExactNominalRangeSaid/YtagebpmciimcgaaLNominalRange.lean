/- The law of NominalRange. -/
import Derived.Test.YtagebpmciimcgaaRngS
namespace Go.Proofs.Ytagebpmciimcgaa
open Go.ChangeShapes Go.WideShapes Go.ChangeAt Go.RowKit Pm

theorem nominalrange_law (x : Int) (w : World) :
    Calls Try.prog 10 #[.int .i64 x] w fun e w' => e = .returned (.bool true) ∧ Below w.heap.size w w' := by
  obtain ⟨a, c, h⟩ := lumIs_ex x 18520
  have HS := Lib.hid (fun w => snominal_any x a c w h)
  have HI := Lib.hid (fun w => nominal_any x a c w h)
  clear h
  go_enter Try.func10, Try.ntmps10
  go_wp2_with (first
    | (go_at_call 29; refine (HS.out _).mono ?_; rintro e w1 ⟨rfl, hb⟩; have ac := Lib.hid hb; clear hb)
    | (go_at_call 30; refine (HI.out _).mono ?_; rintro e w2 ⟨rfl, hb⟩; have ac2 := Lib.hid (Below.next ac.out hb); clear hb))
  go_ret
  exact ⟨rfl, ac2.out⟩
end Go.Proofs.Ytagebpmciimcgaa
