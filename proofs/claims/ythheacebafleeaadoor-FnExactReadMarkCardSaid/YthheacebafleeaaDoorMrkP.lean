/- Valid marks: what the model's test comes to. No Go in sight. -/
import Derived.Test.YthheacebafleeaaDoorMrkM
import Derived.Test.YthheacebafleeaaDoorKit
namespace Go.Proofs.YthheacebafleeaaDoor.Pm

theorem bytes_beq (a b : ByteArray) : (a.toList == b.toList) = decide (a = b) := by
  rw [ByteArray.toList_eq, ByteArray.toList_eq, Bool.eq_iff_iff, beq_iff_eq, decide_eq_true_iff]
  constructor
  · intro h
    obtain ⟨⟨x⟩⟩ := a
    obtain ⟨⟨y⟩⟩ := b
    have : x = y := h
    rw [this]
  · rintro rfl; rfl
theorem has_one (q p : ByteArray) : hasB [q] p = (p.toList == q.toList) := by
  rw [bytes_beq]
  unfold hasB
  rw [Bool.eq_iff_iff]
  simp [eq_comm]
theorem fit_one (q p : ByteArray) : fitB p [q] = ((p.toList == []) || (p.toList == q.toList)) := by
  unfold fitB; rw [has_one]
theorem shapes_none {k : Int} (h : inB 1 9 [k] = false) : mkShapes k = [] := by
  have h1 := inb_no h
  unfold mkShapes
  by_cases h2 : 0 ≤ k ∧ k ≤ 9
  · rw [if_pos h2]
    obtain rfl : k = 0 := by omega
    rfl
  · rw [if_neg h2]
theorem shapes_le (k : Int) : (mkShapes k).length ≤ 5 := by
  cases h : inB 0 9 [k]
  · rw [mkShapes_out h]; decide
  · rcases kind_ten h with rfl | rfl | rfl | rfl | rfl | rfl | rfl | rfl | rfl | rfl <;> decide +kernel
theorem look_out {k : Int} (h : inB 1 9 [k] = false) (c s t : ByteArray) : mkL k c s t = false := by
  unfold mkL
  rw [shapes_none h]
  simp [hasB]
theorem zero_not {k : Int} (h : k ≠ 0) (c s t : ByteArray) : mkZ k c s t = false := by
  unfold mkZ
  rw [beq_eq_false_iff_ne.2 h]; rfl
theorem ok_zero (c s t : ByteArray) : mkOk 0 c s t = mkZ 0 c s t := by
  unfold mkOk
  rw [look_out (by decide), Bool.or_false]
theorem ok_else {k : Int} (h : k ≠ 0) (c s t : ByteArray) : mkOk k c s t = mkL k c s t := by
  unfold mkOk
  rw [zero_not h, Bool.false_or]
theorem look_is (k : Int) (c s t : ByteArray) : mkL k c s t = ((c.toList == (mkF k 1).toList) && (hasB (mkShapes k) s && ((t.toList == []) || (t.toList == (mkF k 3).toList)))) := by
  unfold mkL; rw [fit_one]
theorem has_at {zs : List ByteArray} {s : ByteArray} {j : Nat} (hj : j < zs.length) (h : (zs.getD j ByteArray.empty).toList == s.toList) : hasB zs s = true := by
  rw [bytes_beq, decide_eq_true_iff] at h
  unfold hasB
  rw [List.any_eq_true]
  refine ⟨zs[j], List.getElem_mem hj, ?_⟩
  rw [decide_eq_true_iff, ← h, List.getD, List.getElem?_eq_getElem hj]; rfl
theorem has_none {zs : List ByteArray} {s : ByteArray} (h : ∀ j, j < zs.length → ((zs.getD j ByteArray.empty).toList == s.toList) = false) : hasB zs s = false := by
  unfold hasB
  rw [List.any_eq_false]
  intro x hx
  obtain ⟨j, hj, rfl⟩ := List.getElem_of_mem hx
  have := h j hj
  rw [bytes_beq, List.getD, List.getElem?_eq_getElem hj] at this
  simpa using this
end Go.Proofs.YthheacebafleeaaDoor.Pm
