/- Dividing a text at a byte: the model's function. -/
import Derived.Test.YthggoboljkdldabGreatDoorSplitM
import Derived.Test.YthggoboljkdldabGreatDoorListI
namespace Go.Proofs.YthggoboljkdldabGreatDoor
open Go.ChangeShapes Go.WideShapes Go.ChangeAt Go.RowKit Pm

theorem CutInv.bound {c : UInt8} {s : ByteArray} {done : List ByteArray} {fr i : Nat} (h : CutInv c s done fr i) : done.length ≤ s.size := by
  have h1 := cutS_le c s
  have h2 : (cutS c (s.extract fr s.size)).length ≠ 0 := by
    unfold cutS; rw [List.length_map]
    intro e
    exact cutAt_ne c _ (List.length_eq_zero_iff.1 e)
  rw [h.2.2.1, List.length_append] at h1
  omega

/-- The strings of a list, as values. -/
def strV (ps : List ByteArray) : List Value := ps.map Value.string
theorem strV_len (ps : List ByteArray) : (strV ps).length = ps.length := by simp [strV]
theorem strV_snoc (ps : List ByteArray) (p : ByteArray) : strV (ps ++ [p]) = strV ps ++ [.string p] := by simp [strV]
theorem strrow_snoc {w : World} {B : Nat} {E : TypeId} {v : Value} {ps : List ByteArray} {p : ByteArray} (h : w.ownsRow B E 1 v (ps.length + 1) (strV ps ++ [.string p])) :
    w.ownsRow B E 1 v (ps ++ [p]).length (strV (ps ++ [p])) := by
  rw [strV_snoc, List.length_append, List.length_singleton]; exact h
theorem own_len {w : World} {B : Nat} {E : TypeId} {v : Value} {n : Nat} {ps qs : List ByteArray} (h : w.ownsRow B E 1 v n (strV ps)) (e : qs = ps) : w.ownsRow B E 1 v (strV qs).length (strV qs) := by
  subst e
  have h1 : n = (strV qs).length := by have := h.1; simp at this; omega
  rw [← h1]; exact h

theorem byte_ne {b c : UInt8} (h : ((b.toNat : Int) == (c.toNat : Int)) = false) : b ≠ c := by
  intro e; subst e; simp at h
theorem byte_same {b c : UInt8} (h : ((b.toNat : Int) == (c.toNat : Int)) = true) : b = c := by
  rw [beq_iff_eq] at h
  exact UInt8.toNat_inj.1 (by omega)

end Go.Proofs.YthggoboljkdldabGreatDoor
