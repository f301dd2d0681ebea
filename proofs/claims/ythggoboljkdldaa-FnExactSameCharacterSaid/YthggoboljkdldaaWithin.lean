/- The contracts of least, greatest and within at int64, over a slice of numbers that is nil or lies in memory. -/
import Derived.Test.YthggoboljkdldaaDiv
import Derived.LoopTactic
import Derived.Outline
namespace Go.Proofs.Ythggoboljkdldaa
open Go.ChangeShapes Go.WideShapes Go.ChangeAt Go.RowKit Pm

/-- A slice that reads as the numbers zs: nil, or a row of cells. -/
def IntsAre (k : IntKind) (w : World) (sv : Value) (zs : List Int) : Prop :=
  (sv = .slice none 0 0 ∧ zs = []) ∨
  ∃ b off cap, sv = .slice (some ⟨b, off, none⟩) zs.length cap ∧ zs.length ≤ 9223372036854775807 ∧ ∀ i, i < zs.length → w.cell? ⟨b, off + i, none⟩ = some (.int k (zs.getD i 0))

theorem take_succ_getD (zs : List Int) (k : Nat) (h : k < zs.length) : zs.take (k + 1) = zs.take k ++ [zs.getD k 0] := by
  rw [List.take_succ_eq_append_getElem h]; simp [h]


end Go.Proofs.Ythggoboljkdldaa
