/- The contracts of the small functions on integers of chapter 1: the program's nearest quotient; bounds. -/
import Derived.Test.YthccbipjmheoaaaDoorChecked
import Derived.Test.YthccbipjmheoaaaDoorMath
import Derived.WalkKit
import Derived.ProofKit
import Derived.OpenShut
import Derived.Below
import Derived.Handy
import Derived.Lib.Hide
import Derived.BigQuiet
import Derived.Deep.QuietTactic
namespace Go.Proofs.YthccbipjmheoaaaDoor
open Go.ChangeShapes Go.WideShapes Go.ChangeAt Go.RowKit Pm

theorem ret_i {k : IntKind} {a b : Int} (h : a = b) : Ending.returned (.int k a) = .returned (.int k b) := by rw [h]

theorem ret_v {k : IntKind} {a b : Int} (h : a = b) : Value.int k a = .int k b := by rw [h]

theorem div_bd (x c M : Int) (hx : 0 ≤ x) (hM : x ≤ M) (hc : 0 < c) : 0 ≤ x / c ∧ x / c ≤ M :=
  ⟨Int.ediv_nonneg hx (by omega), Int.le_trans (Int.ediv_le_self _ hx) hM⟩

theorem nq_any (a b : Int) (w : World) (ha0 : -10000000000000 ≤ a) (ha : a ≤ 10000000000000) (hb0 : -1000000000000 ≤ b) (hb : b ≤ 1000000000000) (hne : b ≠ 0) :
    Calls Tryd.prog 67 #[.int .i64 a, .int .i64 b] w fun e w' => e = .returned (.int .i64 (dvr a b)) ∧ w = w' := by
  by_cases h1 : b < 0
  · obtain ⟨c, rfl⟩ : ∃ c, b = -c := ⟨-b, by omega⟩
    by_cases h2 : 0 < a
    · obtain ⟨q1, q2⟩ := div_bd (a + c / 2) c 20000000000000 (by omega) (by omega) (by omega)
      have hv : -((a + c / 2) / c) = dvr a (-c) := by
        unfold dvr dvp; rw [if_pos (by omega), if_pos (by omega), quo_eq]; simp
      have H := Lib.hid hv; clear hv
      go_enter Tryd.func67, Tryd.ntmps67
      go_wp2
      go_ret
      exact ⟨ret_i H.out, rfl⟩
    · obtain ⟨d, rfl⟩ : ∃ c, a = -c := ⟨-a, by omega⟩
      obtain ⟨q1, q2⟩ := div_bd (d + c / 2) c 20000000000000 (by omega) (by omega) (by omega)
      have hv : ((d + c / 2) / c) = dvr (-d) (-c) := by
        unfold dvr dvp; rw [if_pos (by omega), if_neg (by omega), quo_eq]; simp
      have H := Lib.hid hv; clear hv
      go_enter Tryd.func67, Tryd.ntmps67
      go_wp2
      go_ret
      exact ⟨ret_i H.out, rfl⟩
  · by_cases h2 : a < 0
    · obtain ⟨d, rfl⟩ : ∃ c, a = -c := ⟨-a, by omega⟩
      obtain ⟨q1, q2⟩ := div_bd (d + b / 2) b 20000000000000 (by omega) (by omega) (by omega)
      have hv : -((d + b / 2) / b) = dvr (-d) b := by
        unfold dvr dvp; rw [if_neg (by omega), if_pos (by omega), quo_eq]; simp
      have H := Lib.hid hv; clear hv
      go_enter Tryd.func67, Tryd.ntmps67
      go_wp2
      go_ret
      exact ⟨ret_i H.out, rfl⟩
    · obtain ⟨q1, q2⟩ := div_bd (a + b / 2) b 20000000000000 (by omega) (by omega) (by omega)
      have hv : ((a + b / 2) / b) = dvr a b := by
        unfold dvr dvp; rw [if_neg (by omega), if_neg (by omega), quo_eq]
      have H := Lib.hid hv; clear hv
      go_enter Tryd.func67, Tryd.ntmps67
      go_wp2
      go_ret
      exact ⟨ret_i H.out, rfl⟩

theorem in_any (n lo hi : Int) (w : World) :
    Calls Tryd.prog 25 #[.int .i64 n, .int .i64 lo, .int .i64 hi] w fun e w' => e = .returned (.bool (inB lo hi [n])) ∧ w = w' := by
  by_cases h1 : lo ≤ n
  · by_cases h2 : n ≤ hi
    · have hv := Lib.hid (show inB lo hi [n] = true by simp [inB, h1, h2])
      go_enter Tryd.func25, Tryd.ntmps25
      go_wp2
      go_ret
      exact ⟨by rw [hv.out]; rfl, rfl⟩
    · have hv := Lib.hid (show inB lo hi [n] = false by simp [inB, h1, h2])
      go_enter Tryd.func25, Tryd.ntmps25
      go_wp2
      go_ret
      exact ⟨by rw [hv.out]; rfl, rfl⟩
  · have hv := Lib.hid (show inB lo hi [n] = false by simp [inB, h1])
    go_enter Tryd.func25, Tryd.ntmps25
    go_wp2
    go_ret
    exact ⟨by rw [hv.out]; rfl, rfl⟩
end Go.Proofs.YthccbipjmheoaaaDoor
