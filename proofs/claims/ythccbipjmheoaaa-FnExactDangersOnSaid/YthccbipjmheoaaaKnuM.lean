/- Plain facts for the division of a number of 128 bits by one of 64 bits, digit by digit (two digits of 32 bits). No Go in sight. -/
import Derived.Test.YthccbipjmheoaaaGeoX
namespace Go.Proofs.Ythccbipjmheoaaa.Pm

/-- A digit under way: the quotient is at most q, and r is what q times the divisor's head leaves of the dividend's. -/
structure Digit (y1 y0 u v q r : Int) : Prop where
  q0 : 0 ≤ q
  qB : q ≤ 4294967297
  r0 : 0 ≤ r
  sum : q * y1 + r = u
  up : u * 4294967296 + v < (q + 1) * y1 * 4294967296 + (q + 1) * y0

structure Heads (y1 y0 u v : Int) : Prop where
  a1 : 2147483648 ≤ y1
  b1 : y1 < 4294967296
  a0 : 0 ≤ y0
  b0 : y0 < 4294967296
  u0 : 0 ≤ u
  ub : u < y1 * 4294967296 + y0
  v0 : 0 ≤ v
  vb : v < 4294967296

theorem Digit.first {y1 y0 u v : Int} (h : Heads y1 y0 u v) : Digit y1 y0 u v (u / y1) (u - u / y1 * y1) ∧ u - u / y1 * y1 < 4294967296 := by
  obtain ⟨a1, b1, a0, b0, u0, ub, v0, vb⟩ := h
  have e : y1 * (u / y1) + u % y1 = u := Int.mul_ediv_add_emod u y1
  have h0 := Int.emod_nonneg u (show y1 ≠ 0 by omega)
  have h1 := Int.emod_lt_of_pos u (show 0 < y1 by omega)
  have q0 : 0 ≤ u / y1 := Int.ediv_nonneg u0 (by omega)
  rw [Int.mul_comm] at e
  generalize hq : u / y1 = q at *
  have e1 : (q + 1) * y1 = q * y1 + y1 := by rw [Int.add_mul, Int.one_mul]
  have m1 : 0 ≤ (q + 1) * y0 := Int.mul_nonneg (by omega) a0
  refine ⟨⟨q0, ?_, by omega, by omega, by omega⟩, by omega⟩
  by_cases hl : q ≤ 4294967297
  · exact hl
  · have := Int.mul_le_mul_of_nonneg_right (show 4294967298 ≤ q by omega) (show 0 ≤ y1 by omega)
    omega

/-- The digit is too great: one less. -/
theorem Digit.less {y1 y0 u v q r : Int} (h : Heads y1 y0 u v) (d : Digit y1 y0 u v q r) (ht : 4294967296 ≤ q ∨ r * 4294967296 + v < q * y0) : 1 ≤ q ∧ Digit y1 y0 u v (q - 1) (r + y1) := by
  obtain ⟨a1, b1, a0, b0, u0, ub, v0, vb⟩ := h
  obtain ⟨q0, qB, r0, sum, up⟩ := d
  have hq : 1 ≤ q := by
    rcases ht with ht | ht
    · omega
    · by_cases hz : q = 0
      · subst hz; rw [Int.zero_mul] at ht; omega
      · omega
  have e1 : (q - 1) * y1 = q * y1 - y1 := by rw [Int.sub_mul, Int.one_mul]
  refine ⟨hq, by omega, by omega, by omega, by omega, ?_⟩
  rw [show q - 1 + 1 = q by omega]
  rcases ht with ht | ht
  · have m1 := Int.mul_le_mul_of_nonneg_right ht (show 0 ≤ y1 by omega)
    have m2 := Int.mul_le_mul_of_nonneg_right ht a0
    omega
  · omega

/-- What it is to be the quotient. -/
def QuoIs (n y q : Int) : Prop := 0 ≤ q ∧ q * y ≤ n ∧ n < (q + 1) * y
theorem QuoIs.one {n y q p : Int} (hy : 0 < y) (h : QuoIs n y q) (k : QuoIs n y p) : q = p := by
  obtain ⟨h0, h1, h2⟩ := h
  obtain ⟨k0, k1, k2⟩ := k
  have a : q < p + 1 := Int.lt_of_mul_lt_mul_right (Int.lt_of_le_of_lt h1 k2) (by omega)
  have b : p < q + 1 := Int.lt_of_mul_lt_mul_right (Int.lt_of_le_of_lt k1 h2) (by omega)
  omega
theorem QuoIs.div {n y : Int} (hn : 0 ≤ n) (hy : 0 < y) : QuoIs n y (n / y) := by
  have e : y * (n / y) + n % y = n := Int.mul_ediv_add_emod n y
  have h0 := Int.emod_nonneg n (show y ≠ 0 by omega)
  have h1 := Int.emod_lt_of_pos n hy
  have e2 : (n / y + 1) * y = y * (n / y) + y := by rw [Int.add_mul, Int.one_mul, Int.mul_comm]
  refine ⟨Int.ediv_nonneg hn (by omega), ?_, ?_⟩
  · rw [Int.mul_comm]; omega
  · omega

theorem Digit.last {y1 y0 u v q r : Int} (h : Heads y1 y0 u v) (d : Digit y1 y0 u v q r) (ht : q * y0 ≤ r * 4294967296 + v ∨ q ≤ 4294967296 ∧ 4294967296 ≤ r) : QuoIs (u * 4294967296 + v) (y1 * 4294967296 + y0) q ∧ q < 4294967296 := by
  obtain ⟨a1, b1, a0, b0, u0, ub, v0, vb⟩ := h
  obtain ⟨q0, qB, r0, sum, up⟩ := d
  have e0 : q * (y1 * 4294967296 + y0) = q * y1 * 4294967296 + q * y0 := by rw [Int.mul_add, ← Int.mul_assoc]
  have e1 : (q + 1) * (y1 * 4294967296 + y0) = (q + 1) * y1 * 4294967296 + (q + 1) * y0 := by rw [Int.mul_add, ← Int.mul_assoc]
  have hle : q * y0 ≤ r * 4294967296 + v := by
    rcases ht with ht | ht
    · exact ht
    · have m1 := Int.mul_le_mul_of_nonneg_right ht.1 a0
      omega
  have hm : q * (y1 * 4294967296 + y0) ≤ u * 4294967296 + v := by omega
  refine ⟨⟨q0, hm, by omega⟩, ?_⟩
  by_cases hl : q < 4294967296
  · exact hl
  · have m := Int.mul_le_mul_of_nonneg_right (show 4294967296 ≤ q by omega) (show 0 ≤ y1 * 4294967296 + y0 by omega)
    omega

/-- Two digits are the quotient. -/
theorem QuoIs.two {u v1 v0 y q1 q0 : Int} (h1 : QuoIs (u * 4294967296 + v1) y q1) (h0 : QuoIs ((u * 4294967296 + v1 - q1 * y) * 4294967296 + v0) y q0) (w : q0 < 4294967296) :
    QuoIs (u * 18446744073709551616 + (v1 * 4294967296 + v0)) y (q1 * 4294967296 + q0) := by
  obtain ⟨a0, a1, a2⟩ := h1
  obtain ⟨b0, b1, b2⟩ := h0
  have e1 : (q1 * 4294967296 + q0) * y = q1 * y * 4294967296 + q0 * y := by grind
  have e2 : (q1 * 4294967296 + q0 + 1) * y = q1 * y * 4294967296 + (q0 + 1) * y := by grind
  refine ⟨by omega, by omega, by omega⟩

/-- The divisor and the dividend shifted by the same number of places. -/
theorem QuoIs.shift {n y p q : Int} (hp : 0 < p) (h : QuoIs (n * p) (y * p) q) : QuoIs n y q := by
  obtain ⟨h0, h1, h2⟩ := h
  rw [← Int.mul_assoc] at h1 h2
  exact ⟨h0, Int.le_of_mul_le_mul_right h1 hp, Int.lt_of_mul_lt_mul_right h2 (by omega)⟩

end Go.Proofs.Ythccbipjmheoaaa.Pm
