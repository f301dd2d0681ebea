/- The law of the reading of a list. -/
import Derived.Test.YthggoboljkdldabDoorMark
namespace Go.Proofs.YthggoboljkdldabDoor
open Go.ChangeShapes Go.WideShapes Go.ChangeAt Go.RowKit Pm

theorem rl_len (s : ByteArray) : (rlZ s).length ≤ s.size + 1 := by
  unfold rlZ
  split
  · simp
  · split
    · rw [List.length_map]; exact cutS_le 44 s
    · simp

/-- A reading's contract, the list hidden. -/
def RL (zs : List Int) (b : Bool) (w : World) (e : Ending) (w' : World) : Prop :=
  ∃ v, e = .returned (.tuple #[v, .bool b]) ∧ w'.ownsRow w.heap.size 2 1 v zs.length (intV zs) ∧ Below w.heap.size w w'

theorem drew_own {w : World} {B : Nat} {T : TypeId} {v : Value} {n : Nat} {xs : List Value} (m : Nat) (h : w.ownsRow B T 1 v n xs) : (w.drewN m).ownsRow B T 1 v n xs :=
  own_below h (below_drewN (Below.refl _ _) m)

end Go.Proofs.YthggoboljkdldabDoor
