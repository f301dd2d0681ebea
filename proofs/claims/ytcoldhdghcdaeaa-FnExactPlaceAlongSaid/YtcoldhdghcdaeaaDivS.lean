/- The contract of the model's nearest quotient. -/
import Derived.Test.YtcoldhdghcdaeaaDiv
namespace Go.Proofs.Ytcoldhdghcdaeaa
open Go.ChangeShapes Go.WideShapes Go.ChangeAt Go.RowKit Pm

theorem sdiv_any (a b : Int) (w : World) (ha0 : -10000000000000 ≤ a) (ha : a ≤ 10000000000000) (hb0 : -1000000000000 ≤ b) (hb : b ≤ 1000000000000) (hne : b ≠ 0) :
    Calls Try.prog 105 #[.int .i64 a, .int .i64 b] w fun e w' => e = .returned (.int .i64 (dvr a b)) ∧ w = w' := by
  by_cases h1 : b < 0
  · obtain ⟨c, rfl⟩ : ∃ c, b = -c := ⟨-b, by omega⟩
    by_cases h2 : 0 < a
    · obtain ⟨q1, q2⟩ := div_bd (2 * a + c) (2 * c) 30000000000000 (by omega) (by omega) (by omega)
      have hv : -((2 * a + c) / (2 * c)) = dvr a (-c) := by
        unfold dvr dvp quo; rw [if_pos (by omega), if_pos (by omega)]; simp
      rw [show 2 * a + c = c - 2 * -a by omega] at q1 q2 hv
      have H := Lib.hid hv; clear hv
      go_enter Try.func105, Try.ntmps105
      go_wp2
      go_ret
      exact ⟨ret_i H.out, rfl⟩
    · obtain ⟨d, rfl⟩ : ∃ c, a = -c := ⟨-a, by omega⟩
      obtain ⟨q1, q2⟩ := div_bd (2 * d + c) (2 * c) 30000000000000 (by omega) (by omega) (by omega)
      have hv : ((2 * d + c) / (2 * c)) = dvr (-d) (-c) := by
        unfold dvr dvp quo; rw [if_pos (by omega), if_neg (by omega)]; simp
      have H := Lib.hid hv; clear hv
      go_enter Try.func105, Try.ntmps105
      go_wp2
      go_ret
      exact ⟨ret_i H.out, rfl⟩
  · by_cases h2 : a < 0
    · obtain ⟨d, rfl⟩ : ∃ c, a = -c := ⟨-a, by omega⟩
      obtain ⟨q1, q2⟩ := div_bd (2 * d + b) (2 * b) 30000000000000 (by omega) (by omega) (by omega)
      have hv : -((2 * d + b) / (2 * b)) = dvr (-d) b := by
        unfold dvr dvp quo; rw [if_neg (by omega), if_pos (by omega)]; simp
      rw [show 2 * d + b = b - 2 * -d by omega] at q1 q2 hv
      have H := Lib.hid hv; clear hv
      go_enter Try.func105, Try.ntmps105
      go_wp2
      go_ret
      exact ⟨ret_i H.out, rfl⟩
    · obtain ⟨q1, q2⟩ := div_bd (2 * a + b) (2 * b) 30000000000000 (by omega) (by omega) (by omega)
      have hv : ((2 * a + b) / (2 * b)) = dvr a b := by
        unfold dvr dvp quo; rw [if_neg (by omega), if_neg (by omega)]
      have H := Lib.hid hv; clear hv
      go_enter Try.func105, Try.ntmps105
      go_wp2
      go_ret
      exact ⟨ret_i H.out, rfl⟩

end Go.Proofs.Ytcoldhdghcdaeaa
