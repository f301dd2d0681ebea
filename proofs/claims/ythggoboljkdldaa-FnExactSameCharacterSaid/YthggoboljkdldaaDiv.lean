/- The contracts of the small functions on integers of chapter 1: the program's nearest quotient; bounds. -/
import Derived.Test.YthggoboljkdldaaChecked
import Derived.Test.YthggoboljkdldaaMath
import Derived.WalkKit
import Derived.ProofKit
import Derived.OpenShut
import Derived.Below
import Derived.Handy
import Derived.Lib.Hide
import Derived.BigQuiet
import Derived.Deep.QuietTactic
namespace Go.Proofs.Ythggoboljkdldaa
open Go.ChangeShapes Go.WideShapes Go.ChangeAt Go.RowKit Pm

theorem ret_i {k : IntKind} {a b : Int} (h : a = b) : Ending.returned (.int k a) = .returned (.int k b) := by rw [h]

theorem ret_v {k : IntKind} {a b : Int} (h : a = b) : Value.int k a = .int k b := by rw [h]

theorem div_bd (x c M : Int) (hx : 0 ≤ x) (hM : x ≤ M) (hc : 0 < c) : 0 ≤ x / c ∧ x / c ≤ M :=
  ⟨Int.ediv_nonneg hx (by omega), Int.le_trans (Int.ediv_le_self _ hx) hM⟩


end Go.Proofs.Ythggoboljkdldaa
