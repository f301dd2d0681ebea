/- The program's characters of lights: sums, comparisons of slices, what is plain, colors. -/
import Derived.Test.YtgcaipjknpcepabDoorChrM
import Derived.Test.YtgcaipjknpcepabDoorKit
import Derived.Test.YtgcaipjknpcepabDoorWithin
import Derived.Deep.QuietTactic
import Derived.BigQuiet
namespace Go.Proofs.YtgcaipjknpcepabDoor
open Go.ChangeShapes Go.WideShapes Go.ChangeAt Go.RowKit Pm

theorem isum_take (zs : List Int) (k : Nat) (h : k < zs.length) : sumI (zs.take (k + 1)) = sumI (zs.take k) + zs.getD k 0 := by
  rw [take_succ_getD zs k h, sumI_append]; simp [sumI]
theorem iB_get {lo hi : Int} {zs : List Int} (h : inB lo hi zs = true) (k : Nat) (hk : k < zs.length) : lo ≤ zs.getD k 0 ∧ zs.getD k 0 ≤ hi := by
  have := List.all_eq_true.1 h (zs.getD k 0) (by rw [List.getD_eq_getElem?_getD, List.getElem?_eq_getElem hk]; exact List.getElem_mem _)
  simpa using this
theorem isum_bd {lo hi : Int} {zs : List Int} (h : inB lo hi zs = true) : ∀ k : Nat, k ≤ zs.length → k * lo ≤ sumI (zs.take k) ∧ sumI (zs.take k) ≤ k * hi := by
  intro k
  induction k with
  | zero => intro _; simp [sumI]
  | succ k ih =>
    intro hk
    have i1 := ih (by omega)
    have i2 := iB_get h k (by omega)
    rw [isum_take zs k (by omega), show ((k + 1 : Nat) : Int) = (k : Int) + 1 by omega, Int.add_mul, Int.add_mul]
    omega

theorem len_form {w : World} {sv : Value} {zs : List Int} (h : IntsAre .i64 w sv zs) : ∃ a c, sv = .slice a zs.length c := by
  rcases h with ⟨rfl, rfl⟩ | ⟨b, off, cap, rfl, _, _⟩
  · exact ⟨_, _, rfl⟩
  · exact ⟨_, _, rfl⟩
theorem getD_ext {a b : List Int} (hl : a.length = b.length) (h : ∀ j, j < a.length → a.getD j 0 = b.getD j 0) : a = b := by
  apply List.ext_getElem hl
  intro j h1 h2
  have := h j h1
  simpa [h1, h2] using this

/-- A character out of its fields. -/
def mkC (k : Int) (g : List Int) (s t : ByteArray) (p : Int) : Chr := ⟨k, g, s.data.toList, t.data.toList, p⟩
theorem empty_b (s : ByteArray) : s.toList.isEmpty = decide (s.data.toList = []) := by
  rw [ByteArray.toList_eq]
  cases s.data.toList <;> simp
theorem bytes_b (s : ByteArray) (l : List UInt8) : (s.toList == l) = decide (s.data.toList = l) := by
  rw [ByteArray.toList_eq, Bool.eq_iff_iff]; simp
theorem len_b (g : List Int) : ((g.length : Int) == 0) = decide (g = []) := by
  cases g with
  | nil => rfl
  | cons a l => rw [decide_eq_false (by simp), beq_eq_false_iff_ne]; simp; omega
end Go.Proofs.YtgcaipjknpcepabDoor
