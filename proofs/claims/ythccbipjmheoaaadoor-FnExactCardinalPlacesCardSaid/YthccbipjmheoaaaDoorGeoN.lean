/- Plain facts for chapter 2: moving by bearing and distance leads near to the point. No Go in sight. -/
import Derived.Test.YthccbipjmheoaaaDoorGeoM
namespace Go.Proofs.YthccbipjmheoaaaDoor.Pm

theorem mul_bd {a b A B : Int} (ha0 : -A ≤ a) (ha : a ≤ A) (hb0 : -B ≤ b) (hb : b ≤ B) : -(A * B) ≤ a * b ∧ a * b ≤ A * B := by
  have h1 : 0 ≤ (A - a) * (B + b) := Int.mul_nonneg (by omega) (by omega)
  have h2 : 0 ≤ (A + a) * (B - b) := Int.mul_nonneg (by omega) (by omega)
  have h3 : 0 ≤ (A - a) * (B - b) := Int.mul_nonneg (by omega) (by omega)
  have h4 : 0 ≤ (A + a) * (B + b) := Int.mul_nonneg (by omega) (by omega)
  have e1 : (A - a) * (B + b) = A * B + A * b - a * B - a * b := by grind
  have e2 : (A + a) * (B - b) = A * B - A * b + a * B - a * b := by grind
  have e3 : (A - a) * (B - b) = A * B - A * b - a * B + a * b := by grind
  have e4 : (A + a) * (B + b) = A * B + A * b + a * B + a * b := by grind
  omega
theorem sq_bd {a A : Int} (h0 : -A ≤ a) (h : a ≤ A) : a * a ≤ A * A := (mul_bd h0 h h0 h).2
theorem sq_lt {a b : Int} (hb : 0 ≤ b) (h : a * a < b * b) : a < b := by
  by_cases hl : a < b
  · exact hl
  · have := Int.mul_le_mul (show b ≤ a by omega) (show b ≤ a by omega) hb (by omega)
    omega

theorem near_q (S D P Q : Int) (hS : 0 < S) (hD : 10000 * D ≤ 89 * S) (hP : 0 ≤ P) (h : S * Q ≤ D * P) : 10000 * Q ≤ 89 * P := by
  have h1 : (10000 * D) * P ≤ (89 * S) * P := Int.mul_le_mul_of_nonneg_right hD hP
  have h2 : S * (10000 * Q) ≤ S * (89 * P) := by
    have e1 : S * (10000 * Q) = 10000 * (S * Q) := by grind
    have e2 : S * (89 * P) = (89 * S) * P := by grind
    have e3 : (10000 * D) * P = 10000 * (D * P) := by grind
    omega
  exact Int.le_of_mul_le_mul_left h2 hS

/-- How far a way leads to the left of a direction. -/
def aside (wx wy d : Int) : Int := wx * (uv d).2 - wy * (uv d).1
theorem aside_le (wx wy d : Int) (h : prog wx wy (d + 1) ≤ prog wx wy d) (h0 : 0 ≤ prog wx wy d) : 10000 * aside wx wy d ≤ 89 * prog wx wy d := by
  obtain ⟨a1, a2, _, _, _⟩ := near_at d
  unfold aside
  rw [prog_uv] at h h0 ⊢
  rw [prog_uv] at h
  generalize uv (d + 1) = v at *
  generalize uv d = u at *
  refine near_q (cr u v) (dt u u - dt u v) _ _ a1 a2 h0 ?_
  have h1 : 0 ≤ dt u u := by
    unfold dt
    have e1 : 0 ≤ u.1 * u.1 := by rcases Int.le_total 0 u.1 with h | h; exact Int.mul_nonneg h h; exact Int.mul_nonneg_of_nonpos_of_nonpos h h
    have e2 : 0 ≤ u.2 * u.2 := by rcases Int.le_total 0 u.2 with h | h; exact Int.mul_nonneg h h; exact Int.mul_nonneg_of_nonpos_of_nonpos h h
    omega
  have h2 := Int.mul_le_mul_of_nonneg_left h h1
  have e : dt u u * (wx * v.1 + wy * v.2) = dt u v * (wx * u.1 + wy * u.2) + cr u v * (wx * u.2 - wy * u.1) := by unfold dt cr; grind
  have e2 : (dt u u - dt u v) * (wx * u.1 + wy * u.2) = dt u u * (wx * u.1 + wy * u.2) - dt u v * (wx * u.1 + wy * u.2) := by grind
  omega
theorem aside_ge (wx wy d : Int) (h : prog wx wy d ≤ prog wx wy (d + 1)) (h0 : 0 ≤ prog wx wy (d + 1)) : -(89 * prog wx wy (d + 1)) ≤ 10000 * aside wx wy (d + 1) := by
  obtain ⟨a1, _, a2, _, _⟩ := near_at d
  unfold aside
  rw [prog_uv, prog_uv] at h
  rw [prog_uv] at h0 ⊢
  generalize uv (d + 1) = v at *
  generalize uv d = u at *
  have h1 : 0 ≤ dt v v := by
    unfold dt
    have e1 : 0 ≤ v.1 * v.1 := by rcases Int.le_total 0 v.1 with h | h; exact Int.mul_nonneg h h; exact Int.mul_nonneg_of_nonpos_of_nonpos h h
    have e2 : 0 ≤ v.2 * v.2 := by rcases Int.le_total 0 v.2 with h | h; exact Int.mul_nonneg h h; exact Int.mul_nonneg_of_nonpos_of_nonpos h h
    omega
  have h2 := Int.mul_le_mul_of_nonneg_left h h1
  have e : dt v v * (wx * u.1 + wy * u.2) = dt u v * (wx * v.1 + wy * v.2) - cr u v * (wx * v.2 - wy * v.1) := by unfold dt cr; grind
  have e2 : (dt v v - dt u v) * (wx * v.1 + wy * v.2) = dt v v * (wx * v.1 + wy * v.2) - dt u v * (wx * v.1 + wy * v.2) := by grind
  have e3 : cr u v * -(wx * v.2 - wy * v.1) = -(cr u v * (wx * v.2 - wy * v.1)) := by grind
  have := near_q (cr u v) (dt v v - dt u v) (wx * v.1 + wy * v.2) (-(wx * v.2 - wy * v.1)) a1 a2 h0 (by omega)
  omega

/-- The arithmetic of the move: s, c the vector, P and Q the way's parts along it and beside it, d its length rounded down. -/
theorem move_arith (wx wy s c d rx ry : Int) (hs0 : -1000000 ≤ s) (hs : s ≤ 1000000) (hc0 : -1000000 ≤ c) (hc : c ≤ 1000000)
    (hU0 : 999997000000 < s * s + c * c) (hU : s * s + c * c < 1000003000000)
    (hP : 0 ≤ wx * s + wy * c) (hQ : 10000 * (wx * c - wy * s) ≤ 89 * (wx * s + wy * c)) (hQ0 : -(89 * (wx * s + wy * c)) ≤ 10000 * (wx * c - wy * s))
    (hd0 : 0 ≤ d) (hd : d * d ≤ wx * wx + wy * wy) (hd1 : wx * wx + wy * wy < (d + 1) * (d + 1))
    (tx0 : -1000000 ≤ 2 * (d * s - rx * 1000000)) (tx1 : 2 * (d * s - rx * 1000000) ≤ 1000000)
    (ty0 : -1000000 ≤ 2 * (d * c - ry * 1000000)) (ty1 : 2 * (d * c - ry * 1000000) ≤ 1000000) :
    (wx - rx) * (wx - rx) + (wy - ry) * (wy - ry) < (d / 100 + 4) * (d / 100 + 4) := by
  obtain ⟨U, hUe⟩ : ∃ U, s * s + c * c = U := ⟨_, rfl⟩
  obtain ⟨P, hPe⟩ : ∃ P, wx * s + wy * c = P := ⟨_, rfl⟩
  obtain ⟨Q, hQe⟩ : ∃ Q, wx * c - wy * s = Q := ⟨_, rfl⟩
  obtain ⟨N, hNe⟩ : ∃ N, wx * wx + wy * wy = N := ⟨_, rfl⟩
  obtain ⟨tx, htx⟩ : ∃ t, d * s - rx * 1000000 = t := ⟨_, rfl⟩
  obtain ⟨ty, hty⟩ : ∃ t, d * c - ry * 1000000 = t := ⟨_, rfl⟩
  have hL : P * P + Q * Q = N * U := by rw [← hPe, ← hQe, ← hNe, ← hUe]; grind
  rw [hUe] at hU0 hU
  rw [hPe] at hP hQ hQ0
  rw [hQe] at hQ hQ0
  rw [hNe] at hd hd1
  rw [htx] at tx0 tx1
  rw [hty] at ty0 ty1
  have hQQ : 0 ≤ Q * Q := by rcases Int.le_total 0 Q with h | h; exact Int.mul_nonneg h h; exact Int.mul_nonneg_of_nonpos_of_nonpos h h
  -- P from above
  have hNU : N * U ≤ (d + 1) * (d + 1) * U := Int.mul_le_mul_of_nonneg_right (by omega) (by omega)
  have hNU2 : (d + 1) * (d + 1) * U ≤ (d + 1) * (d + 1) * 1000004000004 := Int.mul_le_mul_of_nonneg_left (by omega) (Int.mul_nonneg (by omega) (by omega))
  have hP1 : P ≤ 1000002 * (d + 1) := by
    by_cases h : P ≤ 1000002 * (d + 1)
    · exact h
    · have h1 := Int.mul_lt_mul_of_pos_left (show 1000002 * (d + 1) < P by omega) (show 0 < 1000002 * (d + 1) by omega)
      have h2 := Int.mul_lt_mul_of_pos_right (show 1000002 * (d + 1) < P by omega) (show 0 < P by omega)
      have e1 : 1000002 * (d + 1) * (1000002 * (d + 1)) = (d + 1) * (d + 1) * 1000004000004 := by grind
      omega
  -- P from below
  have hdU : d * d * 999997000000 ≤ d * d * U := Int.mul_le_mul_of_nonneg_left (by omega) (Int.mul_nonneg hd0 hd0)
  have hdU2 : d * d * U ≤ N * U := Int.mul_le_mul_of_nonneg_right hd (by omega)
  have hQ2 : 10000 * Q * (10000 * Q) ≤ 89 * P * (89 * P) := sq_bd hQ0 hQ
  have hP0 : 999950 * d ≤ P := by
    by_cases h : 999950 * d ≤ P
    · exact h
    · have h1 : P * P ≤ 999950 * d * (999950 * d) := Int.mul_le_mul (by omega) (by omega) hP (by omega)
      have e1 : 999950 * d * (999950 * d) = 999900002500 * (d * d) := by grind
      have e2 : 10000 * Q * (10000 * Q) = 100000000 * (Q * Q) := by grind
      have e3 : 89 * P * (89 * P) = 7921 * (P * P) := by grind
      have hdd : 0 ≤ d * d := Int.mul_nonneg hd0 hd0
      have h3 : d * d = 0 := by omega
      have : d = 0 := by rcases Int.mul_eq_zero.1 h3 with h | h <;> exact h
      omega
  -- the rest along and beside the vector
  have hdUU : d * U ≤ d * 1000003000000 := Int.mul_le_mul_of_nonneg_left (by omega) hd0
  have hdUL : d * 999997000000 ≤ d * U := Int.mul_le_mul_of_nonneg_left (by omega) hd0
  obtain ⟨m1, m2⟩ := mul_bd (a := tx) (b := s) (A := 500000) (B := 1000000) (by omega) (by omega) hs0 hs
  obtain ⟨m3, m4⟩ := mul_bd (a := ty) (b := c) (A := 500000) (B := 1000000) (by omega) (by omega) hc0 hc
  obtain ⟨m5, m6⟩ := mul_bd (a := tx) (b := c) (A := 500000) (B := 1000000) (by omega) (by omega) hc0 hc
  obtain ⟨m7, m8⟩ := mul_bd (a := ty) (b := s) (A := 500000) (B := 1000000) (by omega) (by omega) hs0 hs
  have ea : 1000000 * ((wx - rx) * s + (wy - ry) * c) = 1000000 * P - d * U + (tx * s + ty * c) := by rw [← hPe, ← hUe, ← htx, ← hty]; grind
  have eb : 1000000 * ((wx - rx) * c - (wy - ry) * s) = 1000000 * Q + (tx * c - ty * s) := by rw [← hQe, ← htx, ← hty]; grind
  have eE : ((wx - rx) * s + (wy - ry) * c) * ((wx - rx) * s + (wy - ry) * c) + ((wx - rx) * c - (wy - ry) * s) * ((wx - rx) * c - (wy - ry) * s) = ((wx - rx) * (wx - rx) + (wy - ry) * (wy - ry)) * U := by rw [← hUe]; grind
  obtain ⟨a, ha⟩ : ∃ a, (wx - rx) * s + (wy - ry) * c = a := ⟨_, rfl⟩
  obtain ⟨b, hb⟩ : ∃ b, (wx - rx) * c - (wy - ry) * s = b := ⟨_, rfl⟩
  rw [ha, hb] at eE
  rw [ha] at ea
  rw [hb] at eb
  obtain ⟨E, hE⟩ : ∃ E, (wx - rx) * (wx - rx) + (wy - ry) * (wy - ry) = E := ⟨_, rfl⟩
  rw [hE] at eE ⊢
  have a1 : -(2000100 + 53 * d) ≤ a ∧ a ≤ 2000100 + 53 * d := by omega
  have b1 : -(1008910 + 8902 * d) ≤ b ∧ b ≤ 1008910 + 8902 * d := by omega
  have a2 := sq_bd a1.1 a1.2
  have b2 := sq_bd b1.1 b1.2
  obtain ⟨A, hA⟩ : ∃ A, 2000100 + 53 * d = A := ⟨_, rfl⟩
  obtain ⟨B, hB⟩ : ∃ B, 1008910 + 8902 * d = B := ⟨_, rfl⟩
  rw [hA] at a2
  rw [hB] at b2
  have hAB : 0 ≤ A * B := Int.mul_nonneg (by omega) (by omega)
  have e1 : (A + B) * (A + B) = A * A + B * B + 2 * (A * B) := by grind
  obtain ⟨K, hK⟩ : ∃ K, d / 100 + 4 = K := ⟨_, rfl⟩
  rw [hK]
  have hL1 : A + B < 999998 * K := by omega
  have hL2 : (A + B) * (A + B) < 999998 * K * (999998 * K) := by
    have h1 := Int.mul_lt_mul_of_pos_left hL1 (show 0 < A + B by omega)
    have h2 := Int.mul_lt_mul_of_pos_right hL1 (show 0 < 999998 * K by omega)
    omega
  have e2 : 999998 * K * (999998 * K) = K * K * 999996000004 := by grind
  have hKU : K * K * 999996000004 ≤ K * K * U := Int.mul_le_mul_of_nonneg_left (by omega) (Int.mul_nonneg (by omega) (by omega))
  have hlt : E * U < K * K * U := by omega
  exact Int.lt_of_mul_lt_mul_right hlt (by omega)

/-- Moving by the bearing and the distance leads near. -/
theorem move_near {wx wy x d rx ry : Int} (h : Best (prog wx wy) 360 x) (hd0 : 0 ≤ d) (hd : d * d ≤ wx * wx + wy * wy) (hd1 : wx * wx + wy * wy < (d + 1) * (d + 1))
    (tx0 : -1000000 ≤ 2 * (d * sinR x - rx * 1000000)) (tx1 : 2 * (d * sinR x - rx * 1000000) ≤ 1000000)
    (ty0 : -1000000 ≤ 2 * (d * cosR x - ry * 1000000)) (ty1 : 2 * (d * cosR x - ry * 1000000) ≤ 1000000) :
    (wx - rx) * (wx - rx) + (wy - ry) * (wy - ry) < (d / 100 + 4) * (d / 100 + 4) := by
  rw [cos_eq] at ty0 ty1
  have hall := best_all h
  have h0 : 0 ≤ prog wx wy x := by
    have := hall (x + 180)
    rw [prog_half] at this
    omega
  have q1 := aside_le wx wy x (hall (x + 1)) h0
  have q2 := aside_ge wx wy (x - 1)
  rw [show x - 1 + 1 = x by omega] at q2
  have q3 := q2 (hall (x - 1)) h0
  obtain ⟨_, _, _, u0, u1⟩ := near_at x
  exact move_arith wx wy (sinR x) (sinR (x + 90)) d rx ry (sin_bd _).1 (sin_bd _).2 (sin_bd _).1 (sin_bd _).2 u0 u1 h0 q1 q3 hd0 hd hd1 tx0 tx1 ty0 ty1
end Go.Proofs.YthccbipjmheoaaaDoor.Pm
