/- The decimal digits of a number, the last one first. No Go in sight. -/
import Derived.Lib.ItoaNum
import Derived.Lib.ItoaMem
namespace Go.Proofs.YthccbipjmheoaaaDoor.Pm
open Go

/-- The digits of u, the last one first; none of 0. -/
def low (u : Nat) : List UInt8 :=
  if h : u = 0 then [] else UInt8.ofNat (48 + u % 10) :: low (u / 10)
termination_by u
decreasing_by omega

theorem low_zero : low 0 = [] := by rw [low]; rfl
theorem low_pos {u : Nat} (h : u ≠ 0) : low u = UInt8.ofNat (48 + u % 10) :: low (u / 10) := by rw [low, dif_neg h]

theorem low_rev : ∀ (k u : Nat), u ≤ k → u ≠ 0 → (low u).reverse = Lib.decDigits u := by
  intro k
  induction k with
  | zero => intro u h h0; omega
  | succ k ih =>
    intro u h h0
    rw [low_pos h0, List.reverse_cons, Lib.decDigits]
    by_cases h10 : u < 10
    · rw [dif_pos h10, show u / 10 = 0 by omega, low_zero, show u % 10 = u by omega]; rfl
    · rw [dif_neg h10, ih (u / 10) (by omega) (by omega)]

theorem low_len : ∀ (k u : Nat), u < 2 ^ k → (low u).length ≤ k := by
  intro k
  induction k with
  | zero => intro u h; rw [show u = 0 by simpa using h, low_zero]; exact Nat.le_refl _
  | succ k ih =>
    intro u h
    by_cases h0 : u = 0
    · rw [h0, low_zero]; exact Nat.zero_le _
    · rw [low_pos h0, List.length_cons]
      have := ih (u / 10) (by rw [Nat.pow_succ] at h; omega)
      omega

/-- All digits, the last one first, the sign behind. -/
def back (n : Int) : List UInt8 := if n < 0 then low n.natAbs ++ [45] else low n.natAbs

theorem back_rev (n : Int) (h : n ≠ 0) : (back n).reverse = Lib.itoa n := by
  unfold back Lib.itoa
  by_cases hn : n < 0
  · rw [if_pos hn, if_pos hn, List.reverse_append, low_rev _ _ (Nat.le_refl _) (by omega)]; rfl
  · rw [if_neg hn, if_neg hn, low_rev _ _ (Nat.le_refl _) (by omega), show n.natAbs = n.toNat by omega]

theorem digit_val (u : Nat) : ((UInt8.ofNat (48 + u % 10)).toNat : Int) = 48 + (u % 10 : Nat) := by
  rw [UInt8.toNat_ofNat']
  omega
end Go.Proofs.YthccbipjmheoaaaDoor.Pm
