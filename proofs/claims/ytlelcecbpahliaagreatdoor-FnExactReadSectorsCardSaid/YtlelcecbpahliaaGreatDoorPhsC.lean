/- Colors: the model's and the program's test. -/
import Derived.Test.YtlelcecbpahliaaGreatDoorKit
import Derived.Test.YtlelcecbpahliaaGreatDoorLayC
import Derived.Laws.StructEq
namespace Go.Proofs.YtlelcecbpahliaaGreatDoor
open Go.ChangeShapes Go.WideShapes Go.ChangeAt Go.RowKit Pm

/-- Is a text one color? -/
def colB (s : ByteArray) : Bool := s.toList == [87] || s.toList == [82] || s.toList == [71] || s.toList == [89]
/-- The text of all colors. -/
def colS : ByteArray := ⟨#[87, 82, 71, 89]⟩
theorem one_byte (s : ByteArray) (h : s.size = 1) : ∃ c : UInt8, s = ⟨#[c]⟩ := by
  obtain ⟨⟨l⟩⟩ := s
  match l, h with
  | [c], _ => exact ⟨c, rfl⟩
theorem size_toList (s : ByteArray) : s.toList.length = s.size := by rw [ByteArray.toList_eq]; rfl
theorem colB_long {s : ByteArray} (h : s.size ≠ 1) : colB s = false := by
  have hl := size_toList s
  have f : ∀ c : UInt8, (s.toList == [c]) = false := fun c => by
    rw [beq_eq_false_iff_ne]; intro e; rw [e] at hl; exact h hl.symm
  unfold colB; rw [f, f, f, f]; rfl
theorem u8_all {P : UInt8 → Prop} (h : ∀ n : Nat, n < 256 → P (UInt8.ofNat n)) (c : UInt8) : P c := by
  have := h c.toNat c.toNat_lt
  rwa [UInt8.ofNat_toNat] at this
theorem colB_one (c : UInt8) : colB ⟨#[c]⟩ = decide (0 ≤ Lib.indexByte [87, 82, 71, 89] c) := by
  have e : (⟨#[c]⟩ : ByteArray).toList = [c] := by rw [ByteArray.toList_eq]
  unfold colB
  rw [e]
  clear e
  revert c
  refine u8_all ?_
  decide +kernel
theorem colB_cases {s : ByteArray} (h : colB s = true) : s.toList = [87] ∨ s.toList = [82] ∨ s.toList = [71] ∨ s.toList = [89] := by
  simp only [colB, Bool.or_eq_true, beq_iff_eq] at h
  rcases h with ((h | h) | h) | h
  · exact .inl h
  · exact .inr (.inl h)
  · exact .inr (.inr (.inl h))
  · exact .inr (.inr (.inr h))


theorem hascol_any (s : ByteArray) (w : World) :
    Calls Tryz.prog 140 #[.string ⟨#[87, 82, 71, 89]⟩, .string s] w fun e w' => e = .returned (.bool (colB s)) ∧ w = w' := by
  by_cases h : s.size = 1
  · obtain ⟨c, rfl⟩ := one_byte s h
    have HV := Lib.hid (colB_one c)
    have HC := Lib.hid (fun w => Any.strings_Contains_one Tryz.lays144 ⟨#[87, 82, 71, 89]⟩ c w)
    have h1 : (((⟨#[c]⟩ : ByteArray).size : Int) == 1) = true := by rfl
    clear h
    go_enter Tryz.func140, Tryz.ntmps140
    go_wp2_with (go_at_call 166; refine (HC.out _).mono ?_; rintro e w1 ⟨rfl, rfl⟩)
    go_ret
    exact ⟨retB HV.out.symm, rfl⟩
  · have HV := Lib.hid (colB_long h)
    have h1 : ((s.size : Int) == 1) = false := by rw [beq_eq_false_iff_ne]; omega
    clear h
    go_enter Tryz.func140, Tryz.ntmps140
    go_wp2
    go_ret
    exact ⟨retB HV.out.symm, rfl⟩
end Go.Proofs.YtlelcecbpahliaaGreatDoor
