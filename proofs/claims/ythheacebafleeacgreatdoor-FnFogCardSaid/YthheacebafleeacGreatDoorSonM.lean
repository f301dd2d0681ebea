/- In which distance a loudness is heard. No Go in sight. -/
import Derived.Test.YthheacebafleeacGreatDoorBlnI
import Derived.Test.YthheacebafleeacGreatDoorFogM
namespace Go.Proofs.YthheacebafleeacGreatDoor
open Pm

/-- Without wind, as the program divides the table, and as the model does. -/
def calmI (q : Int) : Int := if q ≤ 80 then blendV 60 50 80 200 q else if q ≤ 100 then blendV 80 200 100 1000 q else if q ≤ 120 then blendV 100 1000 120 4000 q else blendV 120 4000 140 8000 q
def calmS (q : Int) : Int := if q < 80 then blendV 60 50 80 200 q else if q < 100 then blendV 80 200 100 1000 q else if q < 120 then blendV 100 1000 120 4000 q else blendV 120 4000 140 8000 q
theorem calm_eq (q : Int) : calmS q = calmI q := by
  unfold calmS calmI
  by_cases h : q = 80
  · subst h; decide +kernel
  by_cases h2 : q = 100
  · subst h2; decide +kernel
  by_cases h3 : q = 120
  · subst h3; decide +kernel
  simp only [show (q < 80) ↔ (q ≤ 80) by omega, show (q < 100) ↔ (q ≤ 100) by omega, show (q < 120) ↔ (q ≤ 120) by omega]
theorem calm_up_all : ∀ n : Nat, n < 80 → calmI (60 + n) ≤ calmI (60 + n + 1) := by decide +kernel
theorem calm_bd_all : ∀ n : Nat, n < 81 → 50 ≤ calmI (60 + n) ∧ calmI (60 + n) ≤ 8000 := by decide +kernel
theorem calm_bd {q : Int} (h0 : 60 ≤ q) (h1 : q ≤ 140) : 50 ≤ calmI q ∧ calmI q ≤ 8000 := by
  have := calm_bd_all (q - 60).toNat (by omega)
  rwa [show (60 : Int) + ((q - 60).toNat : Int) = q by omega] at this
theorem calm_mono {q r : Int} (h0 : 60 ≤ q) (h1 : r ≤ 140) (h : q ≤ r) : calmI q ≤ calmI r := by
  obtain ⟨n, rfl⟩ : ∃ n : Nat, r = q + n := ⟨(r - q).toNat, by omega⟩
  clear h
  induction n with
  | zero => simp
  | succ n ih =>
    have a := ih (by omega)
    have b := calm_up_all (q + n - 60).toNat (by omega)
    rw [show (60 : Int) + ((q + n - 60).toNat : Int) = q + n by omega] at b
    rw [show q + ((n + 1 : Nat) : Int) = q + n + 1 by omega]
    omega
/-- In how many metres a loudness is heard with a wind. -/
def sndV (q v : Int) : Int := (calmI q * (4 + v)).tdiv 4
theorem snd_prod {c v : Int} (c0 : 50 ≤ c) (c1 : c ≤ 8000) (v0 : -3 ≤ v) (v1 : v ≤ 3) : 50 ≤ c * (4 + v) ∧ c * (4 + v) ≤ 56000 := by
  have : v = -3 ∨ v = -2 ∨ v = -1 ∨ v = 0 ∨ v = 1 ∨ v = 2 ∨ v = 3 := by omega
  rcases this with rfl | rfl | rfl | rfl | rfl | rfl | rfl <;> omega
theorem sndV_bd {q v : Int} (h0 : 60 ≤ q) (h1 : q ≤ 140) (v0 : -3 ≤ v) (v1 : v ≤ 3) : 12 ≤ sndV q v ∧ sndV q v ≤ 14000 := by
  obtain ⟨a, b⟩ := calm_bd h0 h1
  obtain ⟨c, d⟩ := snd_prod a b v0 v1
  unfold sndV
  rw [Int.tdiv_eq_ediv_of_nonneg (by omega)]
  omega
theorem sndV_mono {q r v : Int} (h0 : 60 ≤ q) (h1 : r ≤ 140) (h : q ≤ r) (v0 : -3 ≤ v) (v1 : v ≤ 3) : sndV q v ≤ sndV r v := by
  have m := calm_mono h0 h1 h
  obtain ⟨a, b⟩ := calm_bd h0 (show q ≤ 140 by omega)
  obtain ⟨a', b'⟩ := calm_bd (show 60 ≤ r by omega) h1
  obtain ⟨c, d⟩ := snd_prod a b v0 v1
  obtain ⟨c', d'⟩ := snd_prod a' b' v0 v1
  have e : calmI q * (4 + v) ≤ calmI r * (4 + v) := Int.mul_le_mul_of_nonneg_right m (by omega)
  unfold sndV
  rw [Int.tdiv_eq_ediv_of_nonneg (by omega), Int.tdiv_eq_ediv_of_nonneg (by omega)]
  omega
theorem sndV_wind {q v : Int} (h0 : 60 ≤ q) (h1 : q ≤ 140) (v0 : -3 ≤ v) (v1 : v < 3) : sndV q v ≤ sndV q (v + 1) := by
  obtain ⟨a, b⟩ := calm_bd h0 h1
  obtain ⟨c, d⟩ := snd_prod a b v0 (by omega)
  obtain ⟨c', d'⟩ := snd_prod a b (show -3 ≤ v + 1 by omega) (by omega)
  have e : calmI q * (4 + v) ≤ calmI q * (4 + (v + 1)) := Int.mul_le_mul_of_nonneg_left (by omega) (by omega)
  unfold sndV
  rw [Int.tdiv_eq_ediv_of_nonneg (by omega), Int.tdiv_eq_ediv_of_nonneg (by omega)]
  omega
def sndOk (q v : Int) : Bool := fogPow q && inB (-3) 3 [v]
end Go.Proofs.YthheacebafleeacGreatDoor
