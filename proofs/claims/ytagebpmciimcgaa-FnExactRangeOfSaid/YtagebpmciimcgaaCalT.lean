/- The model's answers on dates. -/
import Derived.Test.YtagebpmciimcgaaCalS
namespace Go.Proofs.Ytagebpmciimcgaa
open Go.ChangeShapes Go.WideShapes Go.ChangeAt Go.RowKit Pm






/-! ### Months later -/

/-- The lesser of two. -/
def minI (a b : Int) : Int := if a < b then a else b
theorem smin_any (a b : Int) (w : World) :
    Calls Try.prog 58 #[.int .i64 a, .int .i64 b] w fun e w' => e = .returned (.int .i64 (minI a b)) ∧ w = w' := by
  by_cases h : a < b
  · have HV := Lib.hid (show minI a b = a by unfold minI; rw [if_pos h])
    go_enter Try.func58, Try.ntmps58
    go_wp2
    go_ret
    exact ⟨ret_i HV.out.symm, rfl⟩
  · have HV := Lib.hid (show minI a b = b by unfold minI; rw [if_neg h])
    go_enter Try.func58, Try.ntmps58
    go_wp2
    go_ret
    exact ⟨ret_i HV.out.symm, rfl⟩

end Go.Proofs.Ytagebpmciimcgaa
