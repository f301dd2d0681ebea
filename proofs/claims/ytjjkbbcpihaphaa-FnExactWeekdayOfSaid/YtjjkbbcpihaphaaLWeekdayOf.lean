/- The law of WeekdayOf. -/
import Derived.Test.YtjjkbbcpihaphaaCalT
import Derived.Test.YtjjkbbcpihaphaaCalW
namespace Go.Proofs.Ytjjkbbcpihaphaa
open Go.ChangeShapes Go.WideShapes Go.ChangeAt Go.RowKit Pm

theorem weekdayof_law (n : Int) (w : World) :
    Calls Try.prog 5 #[.int .i64 n] w fun e w' => e = .returned (.bool true) ∧ Below w.heap.size w w' := by
  cases h : inB 0 99999 [n]
  · have HS := Lib.hid (fun w => sweekday_no n w h)
    have HI := Lib.hid (fun w => weekday_no n w h)
    clear h
    go_enter Try.func5, Try.ntmps5
    go_wp2_with (first
      | (go_at_call 10; refine (HS.out _).mono ?_; rintro e w1 ⟨rfl, rfl⟩)
      | (go_at_call 11; refine (HI.out _).mono ?_; rintro e w2 ⟨rfl, hb⟩))
    go_ret
    exact ⟨rfl, hb⟩
  · have HS := fun w => sweekday_yes n w h
    have HI := fun w => weekday_yes n w h
    obtain ⟨z, hz⟩ : ∃ z, z = (n + 5) % 7 := ⟨_, rfl⟩
    rw [← hz] at HS HI
    have HS := Lib.hid HS
    have HI := Lib.hid HI
    clear h hz
    go_enter Try.func5, Try.ntmps5
    go_wp2_with (first
      | (go_at_call 10; refine (HS.out _).mono ?_; rintro e w1 ⟨rfl, rfl⟩)
      | (go_at_call 11; refine (HI.out _).mono ?_; rintro e w2 ⟨rfl, hb⟩))
    go_ret
    exact ⟨rfl, hb⟩
end Go.Proofs.Ytjjkbbcpihaphaa
