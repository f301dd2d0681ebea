/- The text of sectors. No Go in sight. -/
import Derived.Test.YtlelcecbpahliaaGreatDoorSecS
import Derived.Test.YtlelcecbpahliaaGreatDoorCir
import Derived.Test.YtlelcecbpahliaaGreatDoorListI
namespace Go.Proofs.YtlelcecbpahliaaGreatDoor
open Go.ChangeShapes Go.WideShapes Go.ChangeAt Go.RowKit Pm

theorem joins_snoc (xs : List (List UInt8)) (x sep : List UInt8) (h : xs ≠ []) : Lib.join (xs ++ [x]) sep = Lib.join xs sep ++ sep ++ x := by
  cases xs with
  | nil => exact absurd rfl h
  | cons a r =>
    simp only [List.cons_append]
    rw [Lib.join_cons, Lib.join_cons]
    simp [Lib.joinTail]
/-- A sector's text; that of sectors. -/
def secS (p : Sec) : ByteArray := itoaS p.1 ++ ⟨#[45]⟩ ++ itoaS p.2.1 ++ p.2.2
def sxtT (p : Sec) : List UInt8 := (secS p).data.toList
def sxtJ (ps : List Sec) : List UInt8 := Lib.join (ps.map sxtT) [44]
def sxtA (ps : List Sec) : ByteArray := if ps.length = 0 then ⟨#[45]⟩ else ⟨(sxtJ ps).toArray⟩
noncomputable def secText (ps : List Sec) : ByteArray := if validS ps then sxtA ps else ⟨#[]⟩
theorem sxtJ_snoc (ps : List Sec) (p : Sec) (h : ps ≠ []) : sxtJ (ps ++ [p]) = sxtJ ps ++ [44] ++ sxtT p := by
  unfold sxtJ
  rw [List.map_append, List.map_singleton, joins_snoc _ _ _ (by intro e; exact h (List.map_eq_nil_iff.1 e))]
theorem sxtJ_one (p : Sec) : sxtJ [p] = sxtT p := by unfold sxtJ; rw [List.map_singleton, Lib.join_one]
theorem cols_size {s : ByteArray} (h : colB s = true) : s.size = 1 := by
  rw [← size_toList]
  rcases colB_cases h with h | h | h | h <;> rw [h] <;> rfl
theorem itoa_size {n : Int} (h0 : 0 ≤ n) (h1 : n ≤ 359) : (itoaS n).size ≤ 21 := by simpa [itoaS, ByteArray.size] using Lib.itoa_length_le n (by omega) (by omega)
theorem okSec_col {p : Sec} (h : okSec p = true) : colB p.2.2 = true := by
  simp only [okSec, Bool.and_eq_true] at h; exact h.2
theorem secS_size {p : Sec} (h : okSec p = true) : (secS p).size ≤ 44 := by
  obtain ⟨⟨a, b⟩, c, d⟩ := okSec_ends h
  have h1 := itoa_size a b
  have h2 := itoa_size c d
  have h3 := cols_size (okSec_col h)
  have h4 : (⟨#[45]⟩ : ByteArray).size = 1 := rfl
  unfold secS
  simp only [ByteArray.size_append]
  omega
theorem sxtJ_len : ∀ (k : Nat) (ps : List Sec), ps.length = k → (∀ p ∈ ps, (secS p).size ≤ 44) → (sxtJ ps).length ≤ 45 * k := by
  intro k
  induction k with
  | zero => intro ps h _; rw [List.length_eq_zero_iff.1 h]; exact Nat.le_refl _
  | succ k ih =>
    intro ps h hb
    have hne : ps ≠ [] := by intro e; rw [e] at h; simp at h
    obtain ⟨r, p, rfl⟩ : ∃ r p, ps = r ++ [p] := ⟨ps.dropLast, ps.getLast hne, (List.dropLast_concat_getLast hne).symm⟩
    have hp := hb p (by simp)
    have hpl : (sxtT p).length ≤ 44 := hp
    rw [List.length_append, List.length_singleton] at h
    by_cases hr : r = []
    · subst hr; rw [List.nil_append, sxtJ_one]; omega
    · rw [sxtJ_snoc r p hr, List.length_append, List.length_append, List.length_singleton]
      have := ih r (by omega) (fun q hq => hb q (by simp [hq]))
      omega
theorem ValidS.sz {ps : List Sec} (h : ValidS ps) : ∀ p ∈ ps, (secS p).size ≤ 44 := fun p hp => by
  obtain ⟨i, hi, rfl⟩ := List.getElem_of_mem hp
  have := (h.2.1 i hi).1
  rw [sec_getD ps i hi] at this
  exact secS_size this
end Go.Proofs.YtlelcecbpahliaaGreatDoor
