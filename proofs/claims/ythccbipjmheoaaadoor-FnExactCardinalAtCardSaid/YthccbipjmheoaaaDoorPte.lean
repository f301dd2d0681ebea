/- Points compared. -/
import Derived.Test.YthccbipjmheoaaaDoorKit
import Derived.Deep.QuietTactic
import Derived.BigQuiet
import Derived.Laws.StructEq
namespace Go.Proofs.YthccbipjmheoaaaDoor
open Go.ChangeShapes Go.WideShapes Go.ChangeAt Go.RowKit Pm

/-- Two points are one. -/
def ptB (p q : Int × Int) : Bool := p.1 == q.1 && p.2 == q.2
theorem ptGuard : Tryd.prog.eqGuardType Tryd.prog.depth 29 = false := by kernel_rfl
theorem ptEqual (f f' t t' : Int) (w : World) : (Op.equalIn 10000 29 (.agg #[.int .i64 f, .int .i64 t]) (.agg #[.int .i64 f', .int .i64 t'])).run Tryd.prog w = .ok (ptB (f, t) (f', t')) w := by
  have hS : Tryd.prog.underlying 29 = some (.struct (Tryd.prog.fieldsOf 29)) := by kernel_rfl
  have hp : Tryd.prog.stoodInHeld 29 = false := by kernel_rfl
  rw [show (10000 : Nat) = 9999 + 1 from rfl, run_equalIn_agg w 9999 _ _ _ hS hp]
  simp only [Program.fieldsOf, Tryd.underlying29]
  go_simp
  by_cases h1 : f = f' <;> by_cases h2 : t = t' <;> simp [ptB, h1, h2]
theorem ptEql (f f' t t' : Int) (w : World) : (binOp .eql 29 (.agg #[.int .i64 f, .int .i64 t]) (.agg #[.int .i64 f', .int .i64 t'])).run Tryd.prog w = .ok (.bool (ptB (f, t) (f', t'))) w := by
  rw [run_eql_struct, ptEqual]; rfl
end Go.Proofs.YthccbipjmheoaaaDoor
