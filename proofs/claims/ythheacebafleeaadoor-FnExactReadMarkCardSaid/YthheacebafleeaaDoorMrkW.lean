/- Texts of marks. -/
import Derived.Test.YthheacebafleeaaDoorMrkP
import Derived.Lib.Join
namespace Go.Proofs.YthheacebafleeaaDoor
open Go.ChangeShapes Go.WideShapes Go.ChangeAt Go.RowKit Pm

/-- The topmark as it is written. -/
def topT (t : ByteArray) : ByteArray := if t.toList == [] then ⟨#[45]⟩ else t
/-- Four words. -/
def fourT (n c s t : ByteArray) : ByteArray := n ++ ⟨#[32]⟩ ++ c ++ ⟨#[32]⟩ ++ s ++ ⟨#[32]⟩ ++ t
/-- The text of a valid mark. -/
def mkT (k : Int) (c s t : ByteArray) : ByteArray := if k = 0 then mkF 0 0 else fourT (mkF k 0) c s (topT t)
def markText (k : Int) (c s t : ByteArray) : ByteArray := if mkOk k c s t then mkT k c s t else ⟨#[]⟩
theorem one_size (x : UInt8) : (⟨#[x]⟩ : ByteArray).size = 1 := rfl
theorem mkF_size (k : Int) (i : Nat) : (mkF k i).size ≤ 30 := by
  unfold mkF
  split
  · rename_i h
    have hk : k = 0 ∨ k = 1 ∨ k = 2 ∨ k = 3 ∨ k = 4 ∨ k = 5 ∨ k = 6 ∨ k = 7 ∨ k = 8 ∨ k = 9 := by omega
    by_cases hi : i < 7
    · have h7 : i = 0 ∨ i = 1 ∨ i = 2 ∨ i = 3 ∨ i = 4 ∨ i = 5 ∨ i = 6 := by omega
      rcases hk with rfl | rfl | rfl | rfl | rfl | rfl | rfl | rfl | rfl | rfl <;> rcases h7 with rfl | rfl | rfl | rfl | rfl | rfl | rfl <;> decide +kernel
    · have hl : ∀ l : List (List UInt8), l.length ≤ 7 → l.getD i [] = [] := fun l h => by rw [List.getD, List.getElem?_eq_none (by omega)]; rfl
      rw [hl _ (by rcases hk with rfl | rfl | rfl | rfl | rfl | rfl | rfl | rfl | rfl | rfl <;> decide +kernel)]
      decide
  · decide
theorem shape_size {k : Int} {s : ByteArray} (h : hasB (mkShapes k) s = true) : s.size ≤ 30 := by
  have hall : (mkShapes k).all (fun x => decide (x.size ≤ 30)) = true := by
    cases h : inB 0 9 [k]
    · rw [mkShapes_out h]; rfl
    · rcases kind_ten h with rfl | rfl | rfl | rfl | rfl | rfl | rfl | rfl | rfl | rfl <;> decide +kernel
  unfold hasB at h
  obtain ⟨x, hx, he⟩ := List.any_eq_true.1 h
  have := of_decide_eq_true (List.all_eq_true.1 hall x hx)
  rw [of_decide_eq_true he] at this
  exact this
/-- What a valid mark with a look is like. -/
theorem ok_look {k : Int} {c s t : ByteArray} (h : mkOk k c s t = true) (hk : k ≠ 0) : inB 1 9 [k] = true ∧ c.size ≤ 30 ∧ s.size ≤ 30 ∧ t.size ≤ 30 := by
  rw [ok_else hk] at h
  refine ⟨?_, ?_⟩
  · cases h1 : inB 1 9 [k]
    · rw [look_out h1] at h; cases h
    · rfl
  · rw [look_is] at h
    simp only [Bool.and_eq_true, Bool.or_eq_true] at h
    obtain ⟨h1, h2, h3⟩ := h
    rw [bytes_beq, decide_eq_true_iff] at h1
    refine ⟨by rw [h1]; exact mkF_size _ _, shape_size h2, ?_⟩
    rcases h3 with h3 | h3
    · rw [beq_iff_eq, ByteArray.toList_eq] at h3
      have : t.size = t.data.toList.length := rfl
      rw [this, h3]; decide
    · rw [bytes_beq, decide_eq_true_iff] at h3
      rw [h3]; exact mkF_size _ _
theorem topT_size {t : ByteArray} (h : t.size ≤ 30) : (topT t).size ≤ 30 := by
  unfold topT
  split
  · decide
  · exact h
theorem join_four (n c s t : ByteArray) : (⟨(Lib.join ([n, c, s, t].map (·.data.toList)) [32]).toArray⟩ : ByteArray) = fourT n c s t := by
  refine WideShapes.bytes_inj ?_
  unfold fourT
  simp [Lib.join, List.intercalate, List.intersperse]
theorem join_four_len (n c s t : ByteArray) (hn : n.size ≤ 30) (hc : c.size ≤ 30) (hs : s.size ≤ 30) (ht : t.size ≤ 30) : (Lib.join ([n, c, s, t].map (·.data.toList)) [32]).length ≤ 140737488355328 := by
  have h1 : n.data.toList.length ≤ 30 := hn
  have h2 : c.data.toList.length ≤ 30 := hc
  have h3 : s.data.toList.length ≤ 30 := hs
  have h4 : t.data.toList.length ≤ 30 := ht
  simp only [Lib.join, List.intercalate, List.map_cons, List.map_nil]
  simp [List.intersperse]
  omega
end Go.Proofs.YthheacebafleeaaDoor
