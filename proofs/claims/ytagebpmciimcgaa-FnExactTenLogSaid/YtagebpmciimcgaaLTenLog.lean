/- The law of TenLog. -/
import Derived.Test.YtagebpmciimcgaaRngS
namespace Go.Proofs.Ytagebpmciimcgaa
open Go.ChangeShapes Go.WideShapes Go.ChangeAt Go.RowKit Pm

theorem tenlog_law (x : Int) (w : World) :
    Calls Try.prog 5 #[.int .i64 x] w fun e w' => e = .returned (.bool true) ∧ Below w.heap.size w w' := by
  obtain ⟨a, c, h⟩ := logIs_ex x
  have HS := Lib.hid (fun w => stenlog_any x a c w h)
  have HI := Lib.hid (fun w => tenlog_any x a c w h)
  clear h
  go_enter Try.func5, Try.ntmps5
  go_wp2_with (first
    | (go_at_call 24; refine (HS.out _).mono ?_; rintro e w1 ⟨rfl, hb⟩; have ac := Lib.hid hb; clear hb)
    | (go_at_call 19; refine (HI.out _).mono ?_; rintro e w2 ⟨rfl, hb⟩; have ac2 := Lib.hid (Below.next ac.out hb); clear hb))
  go_ret
  exact ⟨rfl, ac2.out⟩
end Go.Proofs.Ytagebpmciimcgaa
