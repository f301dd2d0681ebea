/- Plain facts of the texts of dates and times: numbers with two and four digits, cutting and reading them. No Go in sight. -/
import Derived.Test.YtlelcecbpahliaaGreatDoorNumM
import Derived.Test.YtlelcecbpahliaaGreatDoorCalD
import Derived.Lib.ItoaLen
namespace Go.Proofs.YtlelcecbpahliaaGreatDoor.Pm

/-- A digit. -/
def dig (u : Nat) : UInt8 := UInt8.ofNat (48 + u)
theorem dig_nat {u : Nat} (h : u < 10) : (dig u).toNat = 48 + u := digit_nat u h
theorem dig_isD {u : Nat} (h : u < 10) : isD (dig u) = true := by rw [isD_iff, dig_nat h]; omega
/-- A number with zeros in front of it. -/
def pad (k : Nat) (n : Int) : List UInt8 := List.replicate (k - (Lib.itoa n).length) 48 ++ Lib.itoa n
/-- Two digits, four digits. -/
def d2 (u : Nat) : List UInt8 := [dig (u / 10), dig (u % 10)]
def d4 (u : Nat) : List UInt8 := [dig (u / 1000), dig (u / 100 % 10), dig (u / 10 % 10), dig (u % 10)]
theorem itoa_nat (u : Nat) : Lib.itoa (u : Int) = Lib.decDigits u := by
  unfold Lib.itoa
  rw [if_neg (by omega)]; simp
theorem itoa_one {u : Nat} (h : u < 10) : Lib.itoa (u : Int) = [dig u] := by rw [itoa_nat, Lib.decDigits_one h]; rfl
theorem itoa_two {u : Nat} (h : 10 ≤ u) (h2 : u < 100) : Lib.itoa (u : Int) = d2 u := by rw [itoa_nat, Lib.decDigits_two (by omega) h2]; rfl
theorem itoa_four {u : Nat} (h : 1000 ≤ u) (h2 : u < 10000) : Lib.itoa (u : Int) = d4 u := by
  rw [itoa_nat, Lib.decDigits, dif_neg (by omega), Lib.decDigits, dif_neg (by omega), Lib.decDigits_two (by omega) (by omega)]
  unfold d4 dig
  rw [show u / 10 / 10 / 10 = u / 1000 by omega, show u / 10 / 10 % 10 = u / 100 % 10 by omega]
  rfl
theorem pad_two {u : Nat} (h : u < 100) : pad 2 (u : Int) = d2 u := by
  unfold pad
  by_cases c : u < 10
  · rw [itoa_one c]
    unfold d2
    rw [show u / 10 = 0 by omega, show u % 10 = u by omega]
    rfl
  · rw [itoa_two (by omega) h]; rfl
theorem pad_four {u : Nat} (h : 1000 ≤ u) (h2 : u < 10000) : pad 4 (u : Int) = d4 u := by
  unfold pad
  rw [itoa_four h h2]; rfl
theorem two_low {u : Nat} (h : u < 10) : 48 :: Lib.itoa (u : Int) = d2 u := by
  rw [itoa_one h]
  unfold d2
  rw [show u / 10 = 0 by omega, show u % 10 = u by omega]
  rfl
/-- The text of a date; of minutes of a day. -/
def dateL (y m d : Nat) : List UInt8 := d4 y ++ 45 :: (d2 m ++ 45 :: d2 d)
def clockL (t : Nat) : List UInt8 := d2 (t / 60) ++ 58 :: d2 (t % 60)
theorem dateL_len (y m d : Nat) : (dateL y m d).length = 10 := rfl
theorem clockL_len (t : Nat) : (clockL t).length = 5 := rfl

/-- Reading two and four digits. -/
theorem dv_two {u : Nat} (h : u < 100) : dv 0 (d2 u) = u := by
  unfold d2 dv List.foldl List.foldl List.foldl stepD
  rw [dig_nat (by omega), dig_nat (by omega)]; omega
theorem dv_four {u : Nat} (h : u < 10000) : dv 0 (d4 u) = u := by
  unfold d4 dv List.foldl List.foldl List.foldl List.foldl List.foldl stepD
  rw [dig_nat (by omega), dig_nat (by omega), dig_nat (by omega), dig_nat (by omega)]; omega
theorem all_two {u : Nat} (h : u < 100) : (d2 u).all isD = true := by
  simp [d2, dig_isD (show u / 10 < 10 by omega), dig_isD (show u % 10 < 10 by omega)]
theorem all_four {u : Nat} (h : u < 10000) : (d4 u).all isD = true := by
  simp [d4, dig_isD (show u / 1000 < 10 by omega), dig_isD (show u / 100 % 10 < 10 by omega), dig_isD (show u / 10 % 10 < 10 by omega), dig_isD (show u % 10 < 10 by omega)]
theorem dig_of {c : UInt8} (h : isD c = true) : dig (c.toNat - 48) = c := by
  rw [isD_iff] at h
  apply UInt8.toNat_inj.1
  rw [dig_nat (by omega)]; omega
theorem two_of_digits {a b : UInt8} (h : [a, b].all isD = true) : d2 (dv 0 [a, b]) = [a, b] ∧ dv 0 [a, b] < 100 := by
  simp only [List.all_cons, List.all_nil, Bool.and_true, Bool.and_eq_true] at h
  have ha := h.1
  have hb := h.2
  rw [isD_iff] at ha hb
  have e : dv 0 [a, b] = (a.toNat - 48) * 10 + (b.toNat - 48) := by simp [dv, stepD]
  rw [e]
  refine ⟨?_, by omega⟩
  unfold d2
  rw [show ((a.toNat - 48) * 10 + (b.toNat - 48)) / 10 = a.toNat - 48 by omega, show ((a.toNat - 48) * 10 + (b.toNat - 48)) % 10 = b.toNat - 48 by omega, dig_of h.1, dig_of h.2]
theorem four_of_digits {a b c d : UInt8} (h : [a, b, c, d].all isD = true) : d4 (dv 0 [a, b, c, d]) = [a, b, c, d] ∧ dv 0 [a, b, c, d] < 10000 := by
  simp only [List.all_cons, List.all_nil, Bool.and_true, Bool.and_eq_true] at h
  have ha := h.1
  have hb := h.2.1
  have hc := h.2.2.1
  have hd := h.2.2.2
  rw [isD_iff] at ha hb hc hd
  have e : dv 0 [a, b, c, d] = (a.toNat - 48) * 1000 + (b.toNat - 48) * 100 + (c.toNat - 48) * 10 + (d.toNat - 48) := by simp [dv, stepD]; omega
  rw [e]
  refine ⟨?_, by omega⟩
  unfold d4
  rw [show ((a.toNat - 48) * 1000 + (b.toNat - 48) * 100 + (c.toNat - 48) * 10 + (d.toNat - 48)) / 1000 = a.toNat - 48 by omega,
    show ((a.toNat - 48) * 1000 + (b.toNat - 48) * 100 + (c.toNat - 48) * 10 + (d.toNat - 48)) / 100 % 10 = b.toNat - 48 by omega,
    show ((a.toNat - 48) * 1000 + (b.toNat - 48) * 100 + (c.toNat - 48) * 10 + (d.toNat - 48)) / 10 % 10 = c.toNat - 48 by omega,
    show ((a.toNat - 48) * 1000 + (b.toNat - 48) * 100 + (c.toNat - 48) * 10 + (d.toNat - 48)) % 10 = d.toNat - 48 by omega, dig_of h.1, dig_of h.2.1, dig_of h.2.2.1, dig_of h.2.2.2]
/-- The library's reading of digits, at 32 bits. -/
theorem parse32 {l : List UInt8} (h : l.all isD = true) (h0 : l ≠ []) (hb : dv 0 l ≤ 9999) : Lib.parseIntB 32 l = .ok (dv 0 l) := by
  obtain ⟨c, r, rfl⟩ : ∃ c r, l = c :: r := by cases l with
    | nil => exact absurd rfl h0
    | cons c r => exact ⟨c, r, rfl⟩
  have hc : isD c = true := by simp only [List.all_cons, Bool.and_eq_true] at h; exact h.1
  rw [isD_iff] at hc
  have hm := parseM_digits (2 ^ 32 - 1) (c :: r) 0 h (by omega) (by omega)
  unfold Lib.parseIntB
  simp only []
  rw [if_neg (show ¬ (c.toNat = 43 ∨ c.toNat = 45) by omega)]
  unfold Lib.parseUintB
  rw [if_neg (by simp), hm]
  simp only []
  rw [if_neg (by omega), if_neg (by omega), if_neg (by omega)]
end Go.Proofs.YtlelcecbpahliaaGreatDoor.Pm
