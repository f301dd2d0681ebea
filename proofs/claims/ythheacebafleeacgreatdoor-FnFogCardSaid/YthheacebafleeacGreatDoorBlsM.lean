/- When a fog signal sounds, and when its next blast begins. -/
import Derived.Test.YthheacebafleeacGreatDoorBlsX
namespace Go.Proofs.YthheacebafleeacGreatDoor
open Go.ChangeShapes Go.WideShapes Go.ChangeAt Go.RowKit Pm

/-- Does it sound in this blast? in one of some from this one on? -/
def hitB (z s : Int) (i : Nat) : Bool := decide ((blastF z i).1 ≤ s) && decide (s < (blastF z i).2)
def sndG (z s : Int) : Nat → Nat → Bool
  | 0, _ => false
  | m + 1, k => hitB z s k || sndG z s m (k + 1)
/-- The first of some blasts, from this one on, that does not begin before; p if there is none. -/
def nxtG (z p s : Int) : Nat → Nat → Int
  | 0, _ => p
  | m + 1, k => if s ≤ (blastF z k).1 then (blastF z k).1 else nxtG z p s m (k + 1)
/-- The code for a fog signal and a time; how long before the time its period began. -/
def askC (k b p q t : Int) : Int := if fogOk k b p q then (if inB 0 1000000000000 [t] then 0 else 2) else 1
def sinceV (k b p q t : Int) : Int := if askC k b p q t = 0 then t % p else 0
theorem ask_yes {k b p q t : Int} (h : askC k b p q t = 0) : fogOk k b p q = true ∧ 0 ≤ t ∧ t ≤ 1000000000000 := by
  unfold askC at h
  cases h1 : fogOk k b p q
  · rw [h1, if_neg (by simp)] at h; cases h
  · rw [h1, if_pos rfl] at h
    cases h2 : inB 0 1000000000000 [t]
    · rw [h2, if_neg (by simp)] at h; cases h
    · exact ⟨rfl, inb_yes h2⟩
theorem ask_cases (k b p q t : Int) : (askC k b p q t = 0 ∧ fogOk k b p q = true ∧ 0 ≤ t ∧ t ≤ 1000000000000) ∨ askC k b p q t = 1 ∨ askC k b p q t = 2 := by
  by_cases h : askC k b p q t = 0
  · exact .inl ⟨h, ask_yes h⟩
  · unfold askC at h ⊢
    split
    · rw [if_pos (by assumption)] at h
      split
      · rw [if_pos (by assumption)] at h; exact absurd rfl h
      · exact .inr (.inr rfl)
    · exact .inr (.inl rfl)
theorem nxt_bd {z p s : Int} : ∀ (m k : Nat), m + k ≤ 6 → 0 ≤ z → z ≤ 40 → 0 ≤ p → p ≤ 1200 → 0 ≤ nxtG z p s m k ∧ nxtG z p s m k ≤ 1200
  | 0, k, _, _, _, p0, p1 => ⟨p0, p1⟩
  | m + 1, k, hm, z0, z1, p0, p1 => by
    unfold nxtG
    split
    · have : k = 0 ∨ k = 1 ∨ k = 2 ∨ k = 3 ∨ k = 4 ∨ k = 5 := by omega
      simp only [blastF]
      constructor <;> rcases this with rfl | rfl | rfl | rfl | rfl | rfl <;> simp <;> omega
    · exact nxt_bd m (k + 1) (by omega) z0 z1 p0 p1
theorem emod_self_le {t p : Int} (t0 : 0 ≤ t) (p0 : 0 < p) : t % p ≤ t := by
  obtain ⟨a, rfl⟩ := Int.eq_ofNat_of_zero_le t0
  obtain ⟨c, rfl⟩ := Int.eq_ofNat_of_zero_le (show 0 ≤ p by omega)
  exact_mod_cast Nat.mod_le a c
/-- What is answered on the time of sounding, and of the next blast. -/
def soundA (k b p q t : Int) : Bool := if askC k b p q t = 0 then sndG (fogLen k) (t % p) b.toNat 0 else false
def nextA (k b p q t : Int) : Int := if askC k b p q t = 0 then t - t % p + nxtG (fogLen k) p (t % p) b.toNat 0 else 0
/-- Two numbers; a test's answer and a number; rows and a number are returned. -/
def RetT (a c : Int) (w : World) (e : Ending) (w' : World) : Prop := e = .returned (.tuple #[.int .i64 a, .int .i64 c]) ∧ Below w.heap.size w w'
def RetTB (a : Bool) (c : Int) (w : World) (e : Ending) (w' : World) : Prop := e = .returned (.tuple #[.bool a, .int .i64 c]) ∧ Below w.heap.size w w'
def RowsRet (n : Nat) (f : Nat → Int × Int) (c : Int) (w : World) (e : Ending) (w' : World) : Prop := ∃ v, e = .returned (.tuple #[v, .int .i64 c]) ∧ RowsV w' w.heap.size v n f ∧ Below w.heap.size w w'
def rowsN (k b p q : Int) : Nat := if fogOk k b p q then b.toNat else 0
def rowsC (k b p q : Int) : Int := if fogOk k b p q then 0 else 1
theorem rowsN_le (k b p q : Int) : rowsN k b p q ≤ 6 := by
  unfold rowsN
  split
  · rename_i h
    obtain ⟨h1, _⟩ := ok_parts h
    have := shape_yes h1
    omega
  · omega
theorem ok_facts {k b p q : Int} (h : fogOk k b p q = true) : inB 1 4 [k] = true ∧ (∃ n : Nat, b = n ∧ 0 < n ∧ n ≤ 6) ∧ 10 ≤ p ∧ p ≤ 1200 := by
  obtain ⟨h1, h2, _⟩ := ok_parts h
  obtain ⟨h4, h5, h6⟩ := shape_yes h1
  have := least_bd h1
  exact ⟨h4, ⟨b.toNat, by omega, by omega, by omega⟩, by omega, by omega⟩
end Go.Proofs.YthheacebafleeacGreatDoor
