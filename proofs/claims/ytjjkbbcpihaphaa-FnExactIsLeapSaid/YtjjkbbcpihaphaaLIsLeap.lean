/- The law of IsLeap. -/
import Derived.Test.YtjjkbbcpihaphaaCalS
namespace Go.Proofs.Ytjjkbbcpihaphaa
open Go.ChangeShapes Go.WideShapes Go.ChangeAt Go.RowKit Pm

theorem isleap_law (y : Int) (w : World) :
    Calls Try.prog 3 #[.int .i64 y] w fun e w' => e = .returned (.bool true) ∧ Below w.heap.size w w' := by
  obtain ⟨b, hb⟩ : ∃ b, b = isLeapB y := ⟨_, rfl⟩
  have HS := fun w => sisleap_any y w
  have HI := fun w => isleap_any y w
  rw [← hb] at HS HI
  clear hb
  have HS := Lib.hid HS
  have HI := Lib.hid HI
  go_enter Try.func3, Try.ntmps3
  go_wp2_with (first
    | (go_at_call 6; refine (HS.out _).mono ?_; rintro e w1 ⟨rfl, rfl⟩)
    | (go_at_call 7; refine (HI.out _).mono ?_; rintro e w2 ⟨rfl, hb⟩))
  go_ret
  exact ⟨rfl, hb⟩
end Go.Proofs.Ytjjkbbcpihaphaa
