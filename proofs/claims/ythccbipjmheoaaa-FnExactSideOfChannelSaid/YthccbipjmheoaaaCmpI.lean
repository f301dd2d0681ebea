/- cmp.Compare of numbers. -/
import Derived.Test.YthccbipjmheoaaaNearM
namespace Go.Proofs.Ythccbipjmheoaaa
open Go.ChangeShapes Go.WideShapes Go.ChangeAt Go.RowKit Pm

theorem isnan_any (x : Int) (w : World) : Calls Try.prog 115 #[.int .i64 x] w fun e w' => e = .returned (.bool false) ∧ w' = w := by
  go_enter Try.func115, Try.ntmps115
  go_wp2
  go_ret
  exact ⟨by simp, rfl⟩
def cmpV (x y : Int) : Int := if x < y then -1 else if y < x then 1 else 0
theorem ccmp_any (x y : Int) (w : World) : Calls Try.prog 87 #[.int .i64 x, .int .i64 y] w fun e w' => e = .returned (.int .i64 (cmpV x y)) ∧ w' = w := by
  have HX := Lib.hid (fun w' => isnan_any x w')
  have HY := Lib.hid (fun w' => isnan_any y w')
  by_cases h1 : x < y
  · have e : cmpV x y = -1 := if_pos h1
    rw [e]
    clear e
    go_enter Try.func87, Try.ntmps87
    go_wp2_with (first | (go_at_call 115; (with_reducible refine (HX.out _).mono ?_); rintro e w1 ⟨rfl, rfl⟩) | (go_at_call 115; (with_reducible refine (HY.out _).mono ?_); rintro e w1 ⟨rfl, rfl⟩))
    go_ret
    exact ⟨rfl, rfl⟩
  · by_cases h2 : y < x
    · have e : cmpV x y = 1 := (if_neg h1).trans (if_pos h2)
      rw [e]
      clear e
      go_enter Try.func87, Try.ntmps87
      go_wp2_with (first | (go_at_call 115; (with_reducible refine (HX.out _).mono ?_); rintro e w1 ⟨rfl, rfl⟩) | (go_at_call 115; (with_reducible refine (HY.out _).mono ?_); rintro e w1 ⟨rfl, rfl⟩))
      go_ret
      exact ⟨rfl, rfl⟩
    · have e : cmpV x y = 0 := (if_neg h1).trans (if_neg h2)
      rw [e]
      clear e
      go_enter Try.func87, Try.ntmps87
      go_wp2_with (first | (go_at_call 115; (with_reducible refine (HX.out _).mono ?_); rintro e w1 ⟨rfl, rfl⟩) | (go_at_call 115; (with_reducible refine (HY.out _).mono ?_); rintro e w1 ⟨rfl, rfl⟩))
      go_ret
      exact ⟨rfl, rfl⟩
end Go.Proofs.Ythccbipjmheoaaa
