/- The text of phases. No Go in sight. -/
import Derived.Test.YtgcaipjknpcepaaDoorPhsV
import Derived.Test.YtgcaipjknpcepaaDoorListI
namespace Go.Proofs.YtgcaipjknpcepaaDoor
open Go.ChangeShapes Go.WideShapes Go.ChangeAt Go.RowKit Pm

theorem join_snoc (xs : List (List UInt8)) (x sep : List UInt8) (h : xs ≠ []) : Lib.join (xs ++ [x]) sep = Lib.join xs sep ++ sep ++ x := by
  cases xs with
  | nil => exact absurd rfl h
  | cons a r =>
    simp only [List.cons_append]
    rw [Lib.join_cons, Lib.join_cons]
    simp [Lib.joinTail]
/-- The sign of a color: a dark one has its own. -/
def sgnC (s : ByteArray) : ByteArray := if s.toList.isEmpty then ⟨#[45]⟩ else s
/-- A phase's text; that of phases. -/
def phS (p : Ph) : ByteArray := sgnC p.1 ++ itoaS p.2
def phT (p : Ph) : List UInt8 := (phS p).data.toList
def phtJ (ps : List Ph) : List UInt8 := Lib.join (ps.map phT) [44]
def phText (ps : List Ph) : ByteArray := if validP ps then ⟨(phtJ ps).toArray⟩ else ⟨#[]⟩
theorem phtJ_snoc (ps : List Ph) (p : Ph) (h : ps ≠ []) : phtJ (ps ++ [p]) = phtJ ps ++ [44] ++ phT p := by
  unfold phtJ
  rw [List.map_append, List.map_singleton, join_snoc _ _ _ (by intro e; exact h (List.map_eq_nil_iff.1 e))]
theorem phtJ_one (p : Ph) : phtJ [p] = phT p := by unfold phtJ; rw [List.map_singleton, Lib.join_one]
theorem col_size {s : ByteArray} (h : s.toList = [] ∨ colB s = true) : s.size ≤ 1 := by
  rw [← size_toList]
  rcases h with h | h
  · rw [h]; exact Nat.zero_le _
  · rcases colB_cases h with h | h | h | h <;> rw [h] <;> exact Nat.le_refl 1
theorem phS_size {p : Ph} (hc : p.1.toList = [] ∨ colB p.1 = true) (h0 : -9223372036854775808 ≤ p.2) (h1 : p.2 ≤ 9223372036854775807) : (phS p).size ≤ 23 := by
  unfold phS
  rw [ByteArray.size_append]
  have h2 : (itoaS p.2).size ≤ 21 := by simpa [itoaS, ByteArray.size] using Lib.itoa_length_le p.2 h0 h1
  have h3 : (sgnC p.1).size ≤ 1 := by
    unfold sgnC
    split
    · exact Nat.le_refl 1
    · exact col_size hc
  omega
theorem phtJ_len : ∀ (k : Nat) (ps : List Ph), ps.length = k → (∀ p ∈ ps, (phS p).size ≤ 23) → (phtJ ps).length ≤ 24 * k := by
  intro k
  induction k with
  | zero => intro ps h _; rw [List.length_eq_zero_iff.1 h]; exact Nat.le_refl _
  | succ k ih =>
    intro ps h hb
    have hne : ps ≠ [] := by intro e; rw [e] at h; simp at h
    obtain ⟨r, p, rfl⟩ : ∃ r p, ps = r ++ [p] := ⟨ps.dropLast, ps.getLast hne, (List.dropLast_concat_getLast hne).symm⟩
    have hp := hb p (by simp)
    have hpl : (phT p).length ≤ 23 := hp
    rw [List.length_append, List.length_singleton] at h
    by_cases hr : r = []
    · subst hr; rw [List.nil_append, phtJ_one]; omega
    · rw [phtJ_snoc r p hr, List.length_append, List.length_append, List.length_singleton]
      have := ih r (by omega) (fun q hq => hb q (by simp [hq]))
      omega
theorem ValP.sz {ps : List Ph} (h : ValP ps) : ∀ p ∈ ps, (phS p).size ≤ 23 := fun p hp => phS_size (h.col p hp) (by have := h.len p hp; omega) (by have := h.len p hp; omega)
theorem ValP.at {ps : List Ph} (_h : ValP ps) (k : Nat) (hk : k < ps.length) : ps.getD k ph0 ∈ ps := by rw [ph_getD ps k hk]; exact List.getElem_mem _
end Go.Proofs.YtgcaipjknpcepaaDoor
