/- The letters and their signs. No Go in sight. -/
import Derived.Test.YtgnajfdcbpfdjaaDoorOkX
import Derived.Laws.StructEq
namespace Go.Proofs.YtgnajfdcbpfdjaaDoor
open Go.ChangeShapes Go.WideShapes Go.ChangeAt Go.RowKit Pm

/-- The signs of the letters, in bytes. -/
def morseL : List (List UInt8) := [[46, 45], [45, 46, 46, 46], [45, 46, 45, 46], [45, 46, 46], [46], [46, 46, 45, 46], [45, 45, 46], [46, 46, 46, 46], [46, 46], [46, 45, 45, 45], [45, 46, 45], [46, 45, 46, 46], [45, 45], [45, 46], [45, 45, 45], [46, 45, 45, 46], [45, 45, 46, 45], [46, 45, 46], [46, 46, 46], [45], [46, 46, 45], [46, 46, 46, 45], [46, 45, 45], [45, 46, 46, 45], [45, 46, 45, 45], [45, 45, 46, 46]]
def morseB (r : Nat) : List UInt8 := morseL.getD r []
def morseS (r : Nat) : ByteArray := ⟨(morseB r).toArray⟩
theorem morse_len : morseL.length = 26 := rfl
theorem morse_facts : ∀ r : Nat, r < 26 → 1 ≤ (morseB r).length ∧ (morseB r).length ≤ 4 ∧ (morseB r).all (fun b => b == 46 || b == 45) = true := by decide +kernel
theorem morse_inj : ∀ r : Nat, r < 26 → ∀ q : Nat, q < 26 → morseB r = morseB q → r = q := by decide +kernel
theorem morseS_size (r : Nat) : (morseS r).size = (morseB r).length := by simp [morseS, ByteArray.size]
theorem morseS_list (r : Nat) : (morseS r).toList = morseB r := by rw [ByteArray.toList_eq]; rfl
/-- The letter with a number. -/
def capS (r : Nat) : ByteArray := ⟨#[UInt8.ofNat (65 + r)]⟩
/-- The number of a text that is one capital letter. -/
def capN (s : ByteArray) : Option Nat := match s.data.toList with
  | [c] => if 65 ≤ c.toNat ∧ c.toNat ≤ 90 then some (c.toNat - 65) else none
  | _ => none
theorem capN_long {s : ByteArray} (h : s.size ≠ 1) : capN s = none := by
  obtain ⟨⟨l⟩⟩ := s
  unfold capN
  match l, h with
  | [], _ => rfl
  | [_], h => exact absurd rfl h
  | _ :: _ :: _, _ => rfl
theorem capN_one (c : UInt8) : capN ⟨#[c]⟩ = if 65 ≤ c.toNat ∧ c.toNat ≤ 90 then some (c.toNat - 65) else none := rfl
theorem capN_cap (r : Nat) (h : r < 26) : capN (capS r) = some r := by
  unfold capS
  rw [capN_one, show (UInt8.ofNat (65 + r)).toNat = 65 + r by rw [UInt8.toNat_ofNat']; omega, if_pos (by omega)]
  congr 1; omega
theorem one_byteM (s : ByteArray) (h : s.size = 1) : ∃ c : UInt8, s = ⟨#[c]⟩ := by
  obtain ⟨⟨l⟩⟩ := s
  match l, h with
  | [c], _ => exact ⟨c, rfl⟩
theorem capN_some {s : ByteArray} {r : Nat} (h : capN s = some r) : s = capS r ∧ r < 26 := by
  by_cases h1 : s.size = 1
  · obtain ⟨c, rfl⟩ := one_byteM s h1
    rw [capN_one] at h
    split at h
    · rename_i hc
      cases h
      refine ⟨?_, by omega⟩
      unfold capS
      rw [show 65 + (c.toNat - 65) = c.toNat by omega, UInt8.ofNat_toNat]
    · cases h
  · rw [capN_long h1] at h; cases h
/-- The signs of a text that is one capital letter; else nothing. -/
def signsV (s : ByteArray) : ByteArray := match capN s with | some r => morseS r | none => ⟨#[]⟩
theorem signsV_cap (r : Nat) (h : r < 26) : signsV (capS r) = morseS r := by unfold signsV; rw [capN_cap r h]
/-- The length of a sign in the model's words. -/
def sgn (b : UInt8) : Int := if b = 46 then 5 else 15
theorem take_bytes {l : List UInt8} {k : Nat} (h : k < l.length) : (⟨(l.take k).toArray⟩ : ByteArray) ++ ⟨#[l[k]]⟩ = ⟨(l.take (k + 1)).toArray⟩ := by
  refine WideShapes.bytes_inj ?_
  rw [List.take_succ_eq_append_getElem h]
  simp [ByteArray.data_append]
/-- The number of the letter with some signs. -/
def findN (t : ByteArray) : Option Nat := morseL.findIdx? (fun l => l == t.data.toList)
theorem findN_some {t : ByteArray} {r : Nat} (h : findN t = some r) : r < 26 ∧ morseB r = t.data.toList := by
  unfold findN at h
  rw [List.findIdx?_eq_some_iff_getElem] at h
  obtain ⟨h1, h2, _⟩ := h
  refine ⟨h1, ?_⟩
  unfold morseB
  rw [List.getD_eq_getElem?_getD, List.getElem?_eq_getElem h1]
  simpa using h2
theorem findN_none {t : ByteArray} (h : findN t = none) (r : Nat) (hr : r < 26) : morseB r ≠ t.data.toList := by
  unfold findN at h
  rw [List.findIdx?_eq_none_iff] at h
  intro e
  have := h (morseB r) (by unfold morseB; rw [List.getD_eq_getElem?_getD, List.getElem?_eq_getElem (by rw [morse_len]; exact hr)]; exact List.getElem_mem _)
  rw [e] at this
  simp at this
theorem findN_at {t : ByteArray} {r : Nat} (hr : r < 26) (h : morseB r = t.data.toList) : findN t = some r := by
  cases e : findN t with
  | none => exact absurd h (findN_none e r hr)
  | some q => obtain ⟨hq, h2⟩ := findN_some e; rw [morse_inj r hr q hq (h.trans h2.symm)]
end Go.Proofs.YtgnajfdcbpfdjaaDoor
