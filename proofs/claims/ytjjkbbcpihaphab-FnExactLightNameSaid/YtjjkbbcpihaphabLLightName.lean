/- The law of LightName. -/
import Derived.Test.YtjjkbbcpihaphabDiv
namespace Go.Proofs.Ytjjkbbcpihaphab
open Go.ChangeShapes Go.WideShapes Go.ChangeAt Go.RowKit Pm

theorem lightname_law (k : Int) (w : World) :
    Calls Try.prog 3 #[.int .i64 k] w fun e w' => e = .returned (.bool true) ∧ Below w.heap.size w w' := by
  by_cases h : 1 ≤ k ∧ k ≤ 3
  · have hc : k = 1 ∨ k = 2 ∨ k = 3 := by omega
    clear h
    rcases hc with rfl | rfl | rfl
    all_goals
      go_enter Try.func3, Try.ntmps3
      go_wp2_with (first
        | (go_at_call 4; go_in)
        | (go_at_call 5; go_in)
        | (go_at_call 7; go_in)
        | (go_at_call 6; go_in))
      go_ret
      exact ⟨rfl, by go_grown⟩
  · have h1 : inB 1 3 [k] = false := by simp [inB]; omega
    have b1 : (k == 1) = false := by rw [beq_eq_false_iff_ne]; omega
    have b2 : (k == 2) = false := by rw [beq_eq_false_iff_ne]; omega
    have b3 : (k == 3) = false := by rw [beq_eq_false_iff_ne]; omega
    have HI := Lib.hid (fun w => h1 ▸ in_any k 1 3 w)
    clear h h1
    go_enter Try.func3, Try.ntmps3
    go_wp2_with (first
      | (go_at_call 4; go_in)
      | (go_at_call 5; go_in)
      | (go_at_call 7; go_in)
      | (go_at_call 6; refine (HI.out _).mono ?_; rintro e w1 ⟨rfl, rfl⟩))
    go_ret
    exact ⟨rfl, by go_grown⟩
end Go.Proofs.Ytjjkbbcpihaphab
