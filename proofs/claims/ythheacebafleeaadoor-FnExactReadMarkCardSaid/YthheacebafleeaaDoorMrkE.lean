/- Two marks are one: the comparison of structs. -/
import Derived.Test.YthheacebafleeaaDoorMrkM
import Derived.Test.YthheacebafleeaaDoorKit
import Derived.Laws.StructEq
namespace Go.Proofs.YthheacebafleeaaDoor
open Go.ChangeShapes Go.WideShapes Go.ChangeAt Go.RowKit Pm

set_option maxRecDepth 100000 in
theorem eq_mark (k k' : Int) (c s t c' s' t' : ByteArray) (w : World) :
    (binOp .eql 28 (.agg #[.int .i64 k, .string c, .string s, .string t]) (.agg #[.int .i64 k', .string c', .string s', .string t'])).run Tryd.prog w = .ok (.bool (k == k' && (c.toList == c'.toList) && (s.toList == s'.toList) && (t.toList == t'.toList))) w := by
  have hS : Tryd.prog.underlying 28 = some (.struct (Tryd.prog.fieldsOf 28)) := by kernel_rfl
  have hp : Tryd.prog.stoodInHeld 28 = false := by kernel_rfl
  rw [run_eql_struct, show (10000 : Nat) = 9999 + 1 from rfl, run_equalIn_agg w 9999 28 _ _ hS hp]
  simp only [Program.fieldsOf, Tryd.underlying28]
  go_simp
  by_cases h1 : k = k' <;> by_cases h2 : c.toList = c'.toList <;> by_cases h3 : s.toList = s'.toList <;> by_cases h4 : t.toList = t'.toList <;> simp [h1, h2, h3, h4]
theorem eq_zero (k : Int) (c s t : ByteArray) (w : World) :
    (binOp .eql 28 (.agg #[.int .i64 k, .string c, .string s, .string t]) (.agg #[.int .i64 0, .string ⟨#[]⟩, .string ⟨#[]⟩, .string ⟨#[]⟩])).run Tryd.prog w = .ok (.bool (mkZ k c s t)) w := by
  rw [eq_mark]
  have e : (⟨#[]⟩ : ByteArray).toList = [] := by rw [ByteArray.toList_eq]
  rw [e]; rfl
end Go.Proofs.YthheacebafleeaaDoor
