/- The phases of a text. -/
import Derived.Test.YtgnajfdcbpfdjaaDoorSpiX
import Derived.Test.YtgnajfdcbpfdjaaDoorMorU
import Derived.Test.YtgnajfdcbpfdjaaDoorPhsN
namespace Go.Proofs.YtgnajfdcbpfdjaaDoor
open Go.ChangeShapes Go.WideShapes Go.ChangeAt Go.RowKit Pm

/-- A pause, if there is one. -/
def pauP (g : Nat) (u : Int) : List Ph := if 0 < g then [(⟨#[]⟩, (g : Int) * u)] else []
def sgnU (b : UInt8) : Nat := if b = 45 then 3 else 1
/-- The phases of signs. -/
def sigP (c : ByteArray) (u : Int) : Nat → List UInt8 → List Ph
  | _, [] => []
  | g, b :: r => pauP g u ++ [(c, (sgnU b : Int) * u)] ++ sigP c u 1 r
/-- The phases of a text. -/
def sndP (c : ByteArray) (u : Int) : Nat → List UInt8 → List Ph
  | _, [] => []
  | g, x :: r => if x = 32 then sndP c u 7 r else sigP c u g (morseB (x.toNat - 65)) ++ sndP c u 3 r
theorem pauP_len (g : Nat) (u : Int) : (pauP g u).length ≤ 1 := by unfold pauP; split <;> simp
theorem sigP_len (c : ByteArray) (u : Int) : ∀ (l : List UInt8) (g : Nat), (sigP c u g l).length ≤ 2 * l.length
  | [], _ => by simp [sigP]
  | b :: r, g => by
    have h1 := sigP_len c u r 1
    have h2 := pauP_len g u
    rw [sigP, List.length_append, List.length_append, List.length_cons]
    simp only [List.length_cons, List.length_nil]
    omega
theorem sndP_len (c : ByteArray) (u : Int) : ∀ (l : List UInt8) (g : Nat), (∀ x ∈ l, x = 32 ∨ capB x = true) → (sndP c u g l).length ≤ 8 * l.length
  | [], _, _ => by simp [sndP]
  | x :: r, g, h => by
    rw [sndP]
    by_cases e : x = 32
    · rw [if_pos e]
      have := sndP_len c u r 7 (fun y hy => h y (by simp [hy]))
      rw [List.length_cons]; omega
    · rw [if_neg e, List.length_append, List.length_cons]
      have h1 := sndP_len c u r 3 (fun y hy => h y (by simp [hy]))
      obtain ⟨k, hk, hx⟩ := cap_num ((h x (by simp)).resolve_left e)
      have h2 := sigP_len c u (morseB (x.toNat - 65)) g
      rw [hx, Nat.add_sub_cancel_left] at h2 ⊢
      have h3 := (morse_facts k hk).2.1
      omega
theorem sndP_drop (c : ByteArray) (u : Int) (g : Nat) (s : ByteArray) (k : Nat) (h : k < s.size) : sndP c u g (s.data.toList.drop k) = if s[k] = 32 then sndP c u 7 (s.data.toList.drop (k + 1)) else sigP c u g (morseB ((s[k]).toNat - 65)) ++ sndP c u 3 (s.data.toList.drop (k + 1)) := by
  rw [List.drop_eq_getElem_cons (by simpa using h), sndP, byte_at s k h]
theorem sigP_drop (c : ByteArray) (u : Int) (g : Nat) (m : ByteArray) (j : Nat) (h : j < m.size) : sigP c u g (m.data.toList.drop j) = pauP g u ++ [(c, (sgnU m[j] : Int) * u)] ++ sigP c u 1 (m.data.toList.drop (j + 1)) := by
  rw [List.drop_eq_getElem_cons (by simpa using h), sigP, byte_at m j h]
theorem sigP_end (c : ByteArray) (u : Int) (g : Nat) (m : ByteArray) (j : Nat) (h : m.size ≤ j) : sigP c u g (m.data.toList.drop j) = [] := by
  rw [List.drop_of_length_le (by simpa using h)]; rfl
theorem pauP_yes {g : Nat} (h : 0 < g) (u : Int) : pauP g u = [(⟨#[]⟩, (g : Int) * u)] := if_pos h
theorem pauP_no (u : Int) : pauP 0 u = [] := rfl
/-- A pause's length is no great number. -/
theorem pau_mul {g : Nat} (hg : g ≤ 7) {u : Int} (h1 : 1 ≤ u) (h2 : u ≤ 50) : wrap64 ((g : Int) * u) = (g : Int) * u := by
  have e : g = 0 ∨ g = 1 ∨ g = 2 ∨ g = 3 ∨ g = 4 ∨ g = 5 ∨ g = 6 ∨ g = 7 := by omega
  rcases e with rfl | rfl | rfl | rfl | rfl | rfl | rfl | rfl <;> unfold wrap64 <;> omega
end Go.Proofs.YtgnajfdcbpfdjaaDoor
