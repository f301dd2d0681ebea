/- The law of RangeOf. -/
import Derived.Test.YtagebpmciimcgaaRngS
namespace Go.Proofs.Ytagebpmciimcgaa
open Go.ChangeShapes Go.WideShapes Go.ChangeAt Go.RowKit Pm

theorem rangeof_law (x y z u : Int) (w : World) :
    Calls Try.prog 13 #[.int .i64 x, .int .i64 y, .int .i64 z, .int .i64 u] w fun e w' => e = .returned (.bool true) ∧ Below w.heap.size w w' := by
  obtain ⟨a, c, h⟩ := rngIs_ex x y z u
  have HS := Lib.hid (fun w => srangeof_any x y z u a c w h)
  have HI := Lib.hid (fun w => rangeof_any x y z u a c w h)
  clear h
  go_enter Try.func13, Try.ntmps13
  go_wp2_with (first
    | (go_at_call 33; refine (HS.out _).mono ?_; rintro e w1 ⟨rfl, hb⟩; have ac := Lib.hid hb; clear hb)
    | (go_at_call 23; refine (HI.out _).mono ?_; rintro e w2 ⟨rfl, hb⟩; have ac2 := Lib.hid (Below.next ac.out hb); clear hb))
  go_ret
  exact ⟨rfl, ac2.out⟩
end Go.Proofs.Ytagebpmciimcgaa
