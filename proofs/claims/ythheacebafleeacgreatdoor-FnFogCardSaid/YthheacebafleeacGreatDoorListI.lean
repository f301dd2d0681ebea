/- The text of a list of numbers: the program's. -/
import Derived.Test.YthheacebafleeacGreatDoorListS
import Derived.Test.YthheacebafleeacGreatDoorLaidX
namespace Go.Proofs.YthheacebafleeacGreatDoor
open Go.ChangeShapes Go.WideShapes Go.ChangeAt Go.RowKit Pm

theorem infoStr : (Tryz.prog.info? 9).map (fun i => (i.zero, i.size, i.bytes)) = some (some (.string ⟨#[]⟩), 1, 16) := by kernel_rfl

theorem jn_len : ∀ (k : Nat) (zs : List Int), zs.length = k → (∀ z ∈ zs, -9223372036854775808 ≤ z ∧ z ≤ 9223372036854775807) → (jn zs).length ≤ 22 * k := by
  intro k
  induction k with
  | zero => intro zs h _; rw [List.length_eq_zero_iff.1 h]; exact Nat.le_refl _
  | succ k ih =>
    intro zs h hb
    have hne : zs ≠ [] := by intro e; rw [e] at h; simp at h
    obtain ⟨r, z, rfl⟩ : ∃ r z, zs = r ++ [z] := ⟨zs.dropLast, zs.getLast hne, (List.dropLast_concat_getLast hne).symm⟩
    have hz := hb z (by simp)
    have hl := Lib.itoa_length_le z hz.1 hz.2
    rw [List.length_append, List.length_singleton] at h
    by_cases hr : r = []
    · subst hr; rw [List.nil_append, jn_one]; omega
    · rw [jn_snoc r z hr, List.length_append, List.length_append, List.length_singleton]
      have := ih r (by omega) (fun y hy => hb y (by simp [hy]))
      omega

/-- The form of a number, as a string. -/
def itoaS (z : Int) : ByteArray := ⟨(Lib.itoa z).toArray⟩



end Go.Proofs.YthheacebafleeacGreatDoor
