/- Reading phases. No Go in sight. -/
import Derived.Test.YtgcaipjknpcepaaDoorPhsV
import Derived.Test.YtgcaipjknpcepaaDoorNumS
import Derived.Test.YtgcaipjknpcepaaDoorSplit
namespace Go.Proofs.YtgcaipjknpcepaaDoor
open Go.ChangeShapes Go.WideShapes Go.ChangeAt Go.RowKit Pm

/-- The color with a sign. -/
def unC (t : ByteArray) : ByteArray := if t.toList == [45] then ⟨#[]⟩ else t
/-- A part as a phase. -/
def partP (p : ByteArray) : Ph := (unC (p.extract 0 1), numR (p.extract 1 p.size).data.toList)
def noneB (p : ByteArray) : Bool := !p.toList.isEmpty
/-- Is there a reading? What is read? -/
def rdhB (s : ByteArray) : Bool := (cutS 44 s).all noneB && validP ((cutS 44 s).map partP)
def rdhL (s : ByteArray) : List Ph := if rdhB s then (cutS 44 s).map partP else []
theorem rdh_no {s : ByteArray} (h : rdhB s = false) : rdhL s = [] := by unfold rdhL; rw [h]; rfl
theorem rdh_yes {s : ByteArray} (h : rdhB s = true) : rdhL s = (cutS 44 s).map partP := by unfold rdhL; rw [h]; rfl
theorem rdh_empty {s : ByteArray} {k : Nat} (h : k < (cutS 44 s).length) (he : noneB (cutS 44 s)[k] = false) : rdhB s = false := by
  unfold rdhB
  have : (cutS 44 s).all noneB = false := by
    rw [← Bool.not_eq_true, List.all_eq_true]
    intro hall
    rw [hall _ (List.getElem_mem h)] at he; cases he
  rw [this]; rfl
theorem rdh_bad {s : ByteArray} {k : Nat} (h : k < (cutS 44 s).length) (he : okPh (partP (cutS 44 s)[k]) = false) : rdhB s = false := by
  unfold rdhB
  rw [validP_all (all_no (k := k) (by rw [List.length_map]; exact h) (by rw [ph_getD _ k (by rw [List.length_map]; exact h), List.getElem_map]; exact he)), Bool.and_false]
theorem rdh_many {s : ByteArray} (h : 40 < (cutS 44 s).length) : rdhB s = false := by
  unfold rdhB
  rw [validP_long (by rw [List.length_map]; omega), Bool.and_false]
theorem okPh_zero (t : ByteArray) : okPh (t, 0) = false := by unfold okPh; rfl
theorem part_short {p : ByteArray} (h : p.size ≤ 1) : okPh (partP p) = false := by
  have e : (p.extract 1 p.size).data.toList = [] := by
    have := Lib.extract_toList p 1 p.size
    rw [ByteArray.toList_eq] at this
    rw [this, List.drop_eq_nil_of_le (by have : p.data.toList.length = p.size := rfl; omega), List.take_nil]
  have : numR ([] : List UInt8) = 0 := numR_no (can_none rfl)
  unfold partP
  rw [e, this]
  exact okPh_zero _
theorem part_num {p : ByteArray} (h : canB (p.extract 1 p.size).data.toList = false) : okPh (partP p) = false := by
  unfold partP
  rw [numR_no h]
  exact okPh_zero _
theorem part_col {p : ByteArray} (h1 : (p.extract 0 1).toList.isEmpty = false) (h2 : ((p.extract 0 1).toList == [45]) = false) (h3 : colB (p.extract 0 1) = false) : okPh (partP p) = false := by
  unfold partP okPh unC
  simp only [h2, Bool.false_eq_true, if_false, h1, h3, Bool.or_self, Bool.and_false]
theorem ext_ne {p : ByteArray} (h : 1 ≤ p.size) : (p.extract 0 1).toList.isEmpty = false := by
  rw [Lib.extract_toList, List.drop_zero]
  have h2 : p.data.toList.length = p.size := rfl
  cases e : p.data.toList with
  | nil => rw [e] at h2; simp at h2; omega
  | cons a r => rfl
theorem map_take {ps : List ByteArray} {k : Nat} (h : k < ps.length) : (ps.take (k + 1)).map partP = (ps.take k).map partP ++ [partP ps[k]] := by
  rw [List.take_succ_eq_append_getElem h, List.map_append]; rfl
theorem none_take {ps : List ByteArray} {k : Nat} (h : k < ps.length) : (ps.take (k + 1)).all noneB = ((ps.take k).all noneB && noneB ps[k]) := by
  rw [List.take_succ_eq_append_getElem h, List.all_append]; simp
theorem noneB_size {p : ByteArray} (h : p.toList.isEmpty = false) : 1 ≤ p.size := by
  rw [← size_toList]
  cases e : p.toList with
  | nil => rw [e] at h; cases h
  | cons a r => simp
theorem rdh_len (s : ByteArray) : (rdhL s).length ≤ 40 := by
  cases h : rdhB s
  · rw [rdh_no h]; exact Nat.zero_le _
  · rw [rdh_yes h]
    unfold rdhB at h
    rw [Bool.and_eq_true] at h
    exact (validP_out h.2).most
end Go.Proofs.YtgcaipjknpcepaaDoor
