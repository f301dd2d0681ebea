/- Plain facts for chapter 2: distances, points between two ends, distances from a segment. No Go in sight. -/
import Derived.Test.YthccbipjmheoaaaDoorGeoN
import Derived.Test.YthccbipjmheoaaaDoorMath
namespace Go.Proofs.YthccbipjmheoaaaDoor.Pm

theorem sq_nn (a : Int) : 0 ≤ a * a := by rcases Int.le_total 0 a with h | h; exact Int.mul_nonneg h h; exact Int.mul_nonneg_of_nonpos_of_nonpos h h
theorem sq_zero {a : Int} (h : a * a ≤ 0) : a = 0 := by
  have := sq_nn a
  rcases Int.mul_eq_zero.1 (show a * a = 0 by omega) with h | h <;> exact h

theorem qnear (a b : Int) (hb : 0 < b) : 2 * (a - quo a b * b) ≤ b ∧ -b ≤ 2 * (a - quo a b * b) := by
  have e : 2 * b * quo a b + (2 * a + b) % (2 * b) = 2 * a + b := Int.mul_ediv_add_emod (2 * a + b) (2 * b)
  have h0 := Int.emod_nonneg (2 * a + b) (show 2 * b ≠ 0 by omega)
  have h1 := Int.emod_lt_of_pos (2 * a + b) (show 0 < 2 * b by omega)
  have hm : 2 * b * quo a b = 2 * (quo a b * b) := by rw [Int.mul_assoc, Int.mul_comm b]
  rw [hm] at e
  generalize quo a b * b = t at *
  omega
theorem dnear (a b : Int) (hb : 0 < b) : -b ≤ 2 * (a - dvr a b * b) ∧ 2 * (a - dvr a b * b) ≤ b := by
  unfold dvr
  rw [if_neg (by omega)]
  unfold dvp
  split
  · have := qnear (-a) b hb
    rw [Int.neg_mul]
    omega
  · have := qnear a b hb; omega
theorem dvr_zero (b : Int) (hb : 0 < b) : dvr 0 b = 0 := by
  unfold dvr dvp quo
  rw [if_neg (by omega), if_neg (by omega)]
  exact Int.ediv_eq_zero_of_lt (by omega) (by omega)
/-- A quotient lies between 0 and the number's bound, in its direction. -/
theorem dvr_part {i w n : Int} (hn : 0 < n) (hi : 0 ≤ i) (hin : i ≤ n) : (0 ≤ w → 0 ≤ dvr (i * w) n ∧ dvr (i * w) n ≤ w) ∧ (w ≤ 0 → w ≤ dvr (i * w) n ∧ dvr (i * w) n ≤ 0) := by
  obtain ⟨h0, h1⟩ := dnear (i * w) n hn
  constructor
  · intro hw
    have a1 : 0 ≤ i * w := Int.mul_nonneg hi hw
    have a2 : i * w ≤ n * w := Int.mul_le_mul_of_nonneg_right hin hw
    constructor
    · by_cases h : 0 ≤ dvr (i * w) n
      · exact h
      · have := Int.mul_le_mul_of_nonneg_right (show dvr (i * w) n ≤ -1 by omega) (show 0 ≤ n by omega)
        omega
    · by_cases h : dvr (i * w) n ≤ w
      · exact h
      · have := Int.mul_le_mul_of_nonneg_right (show w + 1 ≤ dvr (i * w) n by omega) (show 0 ≤ n by omega)
        rw [Int.add_mul] at this
        rw [Int.mul_comm n w] at a2
        omega
  · intro hw
    have a1 : i * w ≤ 0 := Int.mul_nonpos_of_nonneg_of_nonpos hi hw
    have a2 : n * w ≤ i * w := Int.mul_le_mul_of_nonpos_right hin hw
    constructor
    · by_cases h : w ≤ dvr (i * w) n
      · exact h
      · have := Int.mul_le_mul_of_nonneg_right (show dvr (i * w) n ≤ w - 1 by omega) (show 0 ≤ n by omega)
        rw [Int.sub_mul] at this
        rw [Int.mul_comm n w] at a2
        omega
    · by_cases h : dvr (i * w) n ≤ 0
      · exact h
      · have := Int.mul_le_mul_of_nonneg_right (show 1 ≤ dvr (i * w) n by omega) (show 0 ≤ n by omega)
        omega

theorem Root.mono {m n r s : Int} (h : Root m r) (k : Root n s) (hm : 0 ≤ m) (hmn : m ≤ n) : r ≤ s := by
  have a := (h.2.2.2 hm).1
  have b := (k.2.2.2 (by omega)).2
  have : r < s + 1 := sq_lt (by have := k.1; omega) (by omega)
  omega
theorem Root.zero {n r : Int} (h : Root n r) (h0 : 0 ≤ n) (h1 : n < 1) : r = 0 := by
  have a := (h.2.2.2 h0).1
  exact sq_zero (by omega)

/-- The square of the distance of two points. -/
def sqd (ax ay bx cy : Int) : Int := (ax - bx) * (ax - bx) + (ay - cy) * (ay - cy)
theorem sqd_nn (ax ay bx cy : Int) : 0 ≤ sqd ax ay bx cy := by
  have := sq_nn (ax - bx); have := sq_nn (ay - cy); unfold sqd; omega
theorem sqd_comm (ax ay bx cy : Int) : sqd ax ay bx cy = sqd bx cy ax ay := by unfold sqd; grind
theorem sqd_zero {ax ay bx cy : Int} (h : sqd ax ay bx cy ≤ 0) : ax = bx ∧ ay = cy := by
  have h1 := sq_nn (ax - bx); have h2 := sq_nn (ay - cy)
  unfold sqd at h
  have a := sq_zero (a := ax - bx) (by omega)
  have b := sq_zero (a := ay - cy) (by omega)
  omega

/-- The inequality of triangles, rounded down. -/
theorem triangle {ax ay bx cy px py r s t : Int} (h1 : Root (sqd ax ay bx cy) r) (h2 : Root (sqd ax ay px py) s) (h3 : Root (sqd px py bx cy) t) : r ≤ s + t + 1 := by
  have a := (h1.2.2.2 (sqd_nn _ _ _ _)).1
  have b := (h2.2.2.2 (sqd_nn _ _ _ _)).2
  have c := (h3.2.2.2 (sqd_nn _ _ _ _)).2
  have n2 := sqd_nn ax ay px py
  have n3 := sqd_nn px py bx cy
  have s0 := h2.1
  have t0 := h3.1
  obtain ⟨D, hD⟩ : ∃ D, (ax - px) * (px - bx) + (ay - py) * (py - cy) = D := ⟨_, rfl⟩
  obtain ⟨X, hX⟩ : ∃ X, (ax - px) * (py - cy) - (ay - py) * (px - bx) = X := ⟨_, rfl⟩
  have e1 : sqd ax ay bx cy = sqd ax ay px py + sqd px py bx cy + 2 * D := by unfold sqd; grind
  have e2 : D * D + X * X = sqd ax ay px py * sqd px py bx cy := by rw [← hD, ← hX]; unfold sqd; grind
  have x0 := sq_nn X
  generalize sqd ax ay px py = m at *
  generalize sqd px py bx cy = n at *
  generalize sqd ax ay bx cy = l at *
  have m1 : m * n ≤ m * ((t + 1) * (t + 1)) := Int.mul_le_mul_of_nonneg_left (by omega) n2
  have m2 : m * ((t + 1) * (t + 1)) ≤ (s + 1) * (s + 1) * ((t + 1) * (t + 1)) := Int.mul_le_mul_of_nonneg_right (by omega) (sq_nn _)
  have e3 : (s + 1) * (s + 1) * ((t + 1) * (t + 1)) = (s + 1) * (t + 1) * ((s + 1) * (t + 1)) := by grind
  have k0 : 0 ≤ (s + 1) * (t + 1) := Int.mul_nonneg (by omega) (by omega)
  have hDk : D ≤ (s + 1) * (t + 1) := by
    by_cases h : D ≤ (s + 1) * (t + 1)
    · exact h
    · have := Int.mul_le_mul (show (s + 1) * (t + 1) + 1 ≤ D by omega) (show (s + 1) * (t + 1) + 1 ≤ D by omega) (by omega) (by omega)
      have e4 : ((s + 1) * (t + 1) + 1) * ((s + 1) * (t + 1) + 1) = (s + 1) * (t + 1) * ((s + 1) * (t + 1)) + 2 * ((s + 1) * (t + 1)) + 1 := by grind
      omega
  have e5 : (s + t + 2) * (s + t + 2) = (s + 1) * (s + 1) + (t + 1) * (t + 1) + 2 * ((s + 1) * (t + 1)) := by grind
  have : r < s + t + 2 := sq_lt (by omega) (by omega)
  omega

/-! ### Segments -/
def alongOf (ax ay bx cy px py : Int) : Int := (bx - ax) * (px - ax) + (cy - ay) * (py - ay)
def crossOf (ax ay bx cy px py : Int) : Int := (bx - ax) * (py - ay) - (cy - ay) * (px - ax)
/-- What it is to be the distance of a point from a segment, rounded down. -/
def GapIs (ax ay bx cy px py r : Int) : Prop :=
  if alongOf ax ay bx cy px py ≤ 0 then Root (sqd ax ay px py) r
  else if sqd ax ay bx cy ≤ alongOf ax ay bx cy px py then Root (sqd bx cy px py) r
  else 0 ≤ r ∧ r * r * sqd ax ay bx cy ≤ crossOf ax ay bx cy px py * crossOf ax ay bx cy px py ∧ crossOf ax ay bx cy px py * crossOf ax ay bx cy px py < (r + 1) * (r + 1) * sqd ax ay bx cy

theorem GapIs.nn {ax ay bx cy px py r : Int} (h : GapIs ax ay bx cy px py r) : 0 ≤ r := by
  unfold GapIs at h
  split at h
  · exact h.1
  · split at h
    · exact h.1
    · exact h.1
theorem GapIs.one {ax ay bx cy px py r s : Int} (h : GapIs ax ay bx cy px py r) (k : GapIs ax ay bx cy px py s) : r = s := by
  have hr := h.nn
  have hs := k.nn
  unfold GapIs at h k
  by_cases h1 : alongOf ax ay bx cy px py ≤ 0
  · rw [if_pos h1] at h k; exact h.one k
  · rw [if_neg h1] at h k
    by_cases h2 : sqd ax ay bx cy ≤ alongOf ax ay bx cy px py
    · rw [if_pos h2] at h k; exact h.one k
    · rw [if_neg h2] at h k
      obtain ⟨_, a, b⟩ := h
      obtain ⟨_, c, d⟩ := k
      generalize crossOf ax ay bx cy px py * crossOf ax ay bx cy px py = x at *
      have h0 := sqd_nn ax ay bx cy
      generalize sqd ax ay bx cy = w at *
      have e1 : r * r < (s + 1) * (s + 1) := Int.lt_of_mul_lt_mul_right (Int.lt_of_le_of_lt a d) h0
      have e2 : s * s < (r + 1) * (r + 1) := Int.lt_of_mul_lt_mul_right (Int.lt_of_le_of_lt c b) h0
      have := sq_lt (show 0 ≤ s + 1 by omega) e1
      have := sq_lt (show 0 ≤ r + 1 by omega) e2
      omega
theorem along_back (ax ay bx cy px py : Int) : alongOf bx cy ax ay px py = sqd ax ay bx cy - alongOf ax ay bx cy px py := by unfold alongOf sqd; grind
theorem cross_back (ax ay bx cy px py : Int) : crossOf bx cy ax ay px py = -crossOf ax ay bx cy px py := by unfold crossOf; grind
theorem GapIs.symm {ax ay bx cy px py r : Int} (h : GapIs ax ay bx cy px py r) : GapIs bx cy ax ay px py r := by
  unfold GapIs at h ⊢
  rw [along_back, cross_back, ← sqd_comm ax ay bx cy]
  have h0 := sqd_nn ax ay bx cy
  by_cases h1 : alongOf ax ay bx cy px py ≤ 0
  · rw [if_pos h1] at h
    by_cases h2 : sqd ax ay bx cy - alongOf ax ay bx cy px py ≤ 0
    · obtain ⟨rfl, rfl⟩ := sqd_zero (show sqd ax ay bx cy ≤ 0 by omega)
      rw [if_pos h2]; exact h
    · rw [if_neg h2, if_pos (by omega)]; exact h
  · rw [if_neg h1] at h
    by_cases h2 : sqd ax ay bx cy ≤ alongOf ax ay bx cy px py
    · rw [if_pos h2] at h
      rw [if_pos (by omega)]; exact h
    · rw [if_neg h2] at h
      rw [if_neg (by omega), if_neg (by omega), Int.neg_mul_neg]; exact h
theorem GapIs.le {ax ay bx cy px py r d : Int} (h : GapIs ax ay bx cy px py r) (k : Root (sqd ax ay px py) d) : r ≤ d := by
  have hr := h.nn
  unfold GapIs at h
  by_cases h1 : alongOf ax ay bx cy px py ≤ 0
  · rw [if_pos h1] at h; exact Int.le_of_eq (h.one k)
  · rw [if_neg h1] at h
    by_cases h2 : sqd ax ay bx cy ≤ alongOf ax ay bx cy px py
    · rw [if_pos h2] at h
      refine h.mono k (sqd_nn _ _ _ _) ?_
      have e : sqd bx cy px py = sqd ax ay px py + sqd ax ay bx cy - 2 * alongOf ax ay bx cy px py := by unfold sqd alongOf; grind
      omega
    · rw [if_neg h2] at h
      obtain ⟨_, a, _⟩ := h
      have e : crossOf ax ay bx cy px py * crossOf ax ay bx cy px py + alongOf ax ay bx cy px py * alongOf ax ay bx cy px py = sqd ax ay px py * sqd ax ay bx cy := by unfold crossOf alongOf sqd; grind
      have q := sq_nn (alongOf ax ay bx cy px py)
      have e1 : r * r ≤ sqd ax ay px py := by
        refine Int.le_of_mul_le_mul_right (a := sqd ax ay bx cy) ?_ (by omega)
        omega
      have e2 := (k.2.2.2 (sqd_nn _ _ _ _)).2
      have e3 : r < d + 1 := sq_lt (by have := k.1; omega) (by omega)
      omega

/-- A point that is rounded from one of a segment lies less than a metre from an end that it has passed. -/
theorem end_near {wx wy vx vy tx ty i n : Int} (hn : 0 < n) (hi : 0 ≤ i) (hx : n * vx = i * wx + tx) (hy : n * vy = i * wy + ty)
    (tx0 : -n ≤ 2 * tx) (tx1 : 2 * tx ≤ n) (ty0 : -n ≤ 2 * ty) (ty1 : 2 * ty ≤ n) (h : wx * vx + wy * vy ≤ 0) : vx * vx + vy * vy < 1 := by
  have a := sq_bd tx0 tx1
  have b := sq_bd ty0 ty1
  obtain ⟨V, hV⟩ : ∃ V, vx * vx + vy * vy = V := ⟨_, rfl⟩
  obtain ⟨D, hD⟩ : ∃ D, wx * vx + wy * vy = D := ⟨_, rfl⟩
  have e1 : n * n * V = i * (n * D) + (tx * (n * vx) + ty * (n * vy)) := by rw [← hV, ← hD]; grind
  have e2 : tx * (n * vx) + ty * (n * vy) = i * (wx * tx + wy * ty) + (tx * tx + ty * ty) := by rw [hx, hy]; grind
  have e3 : n * D = i * (wx * wx + wy * wy) + (wx * tx + wy * ty) := by rw [← hD]; grind
  have q0 := sq_nn wx
  have q1 := sq_nn wy
  have m1 : n * D ≤ 0 := Int.mul_nonpos_of_nonneg_of_nonpos (by omega) (by omega)
  have m2 : i * (n * D) ≤ 0 := Int.mul_nonpos_of_nonneg_of_nonpos hi m1
  have m3 : 0 ≤ i * (wx * wx + wy * wy) := Int.mul_nonneg hi (by omega)
  have m4 : i * (wx * tx + wy * ty) ≤ 0 := Int.mul_nonpos_of_nonneg_of_nonpos hi (by omega)
  have m5 : 0 < n * n := Int.mul_pos hn hn
  have e4 : 2 * tx * (2 * tx) = 4 * (tx * tx) := by grind
  have e5 : 2 * ty * (2 * ty) = 4 * (ty * ty) := by grind
  rw [hV]
  refine Int.lt_of_mul_lt_mul_left (a := n * n) ?_ (by omega)
  omega
theorem side_near {wx wy vx vy tx ty i n r W : Int} (hn : 0 < n) (hx : n * vx = i * wx + tx) (hy : n * vy = i * wy + ty)
    (tx0 : -n ≤ 2 * tx) (tx1 : 2 * tx ≤ n) (ty0 : -n ≤ 2 * ty) (ty1 : 2 * ty ≤ n) (hW : wx * wx + wy * wy = W) (hW0 : 0 < W) (hr : 0 ≤ r) (h : r * r * W ≤ (wx * vy - wy * vx) * (wx * vy - wy * vx)) : r = 0 := by
  have a := sq_bd tx0 tx1
  have b := sq_bd ty0 ty1
  obtain ⟨X, hX⟩ : ∃ X, wx * vy - wy * vx = X := ⟨_, rfl⟩
  rw [hX] at h
  have e1 : n * X = wx * ty - wy * tx := by rw [← hX]; grind
  have e2 : n * n * (X * X) = (wx * ty - wy * tx) * (wx * ty - wy * tx) := by rw [← e1]; grind
  have e3 : (wx * ty - wy * tx) * (wx * ty - wy * tx) + (wx * tx + wy * ty) * (wx * tx + wy * ty) = W * (tx * tx + ty * ty) := by rw [← hW]; grind
  have q := sq_nn (wx * tx + wy * ty)
  have e4 : 2 * tx * (2 * tx) = 4 * (tx * tx) := by grind
  have e5 : 2 * ty * (2 * ty) = 4 * (ty * ty) := by grind
  have m1 : W * (tx * tx + ty * ty) * 2 ≤ W * (n * n) := by
    have : W * ((tx * tx + ty * ty) * 2) ≤ W * (n * n) := Int.mul_le_mul_of_nonneg_left (by omega) (by omega)
    rw [Int.mul_assoc]; exact this
  have m5 : 0 < n * n := Int.mul_pos hn hn
  have m6 : X * X * 2 ≤ W := by
    refine Int.le_of_mul_le_mul_left (a := n * n) ?_ m5
    have e6 : n * n * (X * X * 2) = n * n * (X * X) * 2 := by grind
    rw [e6, Int.mul_comm (n * n) W]
    omega
  by_cases hz : r = 0
  · exact hz
  · have m7 : 1 * W ≤ r * r * W := Int.mul_le_mul_of_nonneg_right (by have := Int.mul_le_mul (show 1 ≤ r by omega) (show 1 ≤ r by omega) (by omega) (by omega); omega) (by omega)
    omega

theorem gap_round {ax ay bx cy px py i n r : Int} (hn : 0 < n) (hi : 0 ≤ i) (hin : i ≤ n)
    (hx : px = ax + dvr (i * (bx - ax)) n) (hy : py = ay + dvr (i * (cy - ay)) n) (h : GapIs ax ay bx cy px py r) : r = 0 := by
  obtain ⟨x0, x1⟩ := dnear (i * (bx - ax)) n hn
  obtain ⟨y0, y1⟩ := dnear (i * (cy - ay)) n hn
  obtain ⟨wx, hwx⟩ : ∃ w, bx - ax = w := ⟨_, rfl⟩
  obtain ⟨wy, hwy⟩ : ∃ w, cy - ay = w := ⟨_, rfl⟩
  rw [hwx] at hx x0 x1
  rw [hwy] at hy y0 y1
  obtain ⟨tx, htx⟩ : ∃ t, i * wx - dvr (i * wx) n * n = t := ⟨_, rfl⟩
  obtain ⟨ty, hty⟩ : ∃ t, i * wy - dvr (i * wy) n * n = t := ⟨_, rfl⟩
  rw [htx] at x0 x1
  rw [hty] at y0 y1
  have vx : n * (px - ax) = i * wx + -tx := by rw [show px - ax = dvr (i * wx) n by omega, ← htx]; grind
  have vy : n * (py - ay) = i * wy + -ty := by rw [show py - ay = dvr (i * wy) n by omega, ← hty]; grind
  have hr := h.nn
  have nn := sqd_nn ax ay px py
  have nn2 := sqd_nn bx cy px py
  unfold GapIs at h
  by_cases h1 : alongOf ax ay bx cy px py ≤ 0
  · rw [if_pos h1] at h
    refine h.zero nn ?_
    have := end_near (wx := wx) (wy := wy) hn hi vx vy (by omega) (by omega) (by omega) (by omega) (by unfold alongOf at h1; rw [hwx, hwy] at h1; exact h1)
    have e : sqd ax ay px py = (px - ax) * (px - ax) + (py - ay) * (py - ay) := by unfold sqd; grind
    omega
  · rw [if_neg h1] at h
    by_cases h2 : sqd ax ay bx cy ≤ alongOf ax ay bx cy px py
    · rw [if_pos h2] at h
      refine h.zero nn2 ?_
      have vx2 : n * (bx - px) = (n - i) * wx + tx := by rw [show bx - px = wx - (px - ax) by omega, Int.mul_sub, vx]; grind
      have vy2 : n * (cy - py) = (n - i) * wy + ty := by rw [show cy - py = wy - (py - ay) by omega, Int.mul_sub, vy]; grind
      have e0 : wx * (bx - px) + wy * (cy - py) = sqd ax ay bx cy - alongOf ax ay bx cy px py := by rw [← hwx, ← hwy]; unfold sqd alongOf; grind
      have := end_near (wx := wx) (wy := wy) hn (show 0 ≤ n - i by omega) vx2 vy2 (by omega) (by omega) (by omega) (by omega) (by omega)
      unfold sqd; omega
    · rw [if_neg h2] at h
      obtain ⟨_, a, _⟩ := h
      refine side_near (wx := wx) (wy := wy) (W := sqd ax ay bx cy) hn vx vy (by omega) (by omega) (by omega) (by omega) (by rw [← hwx, ← hwy]; unfold sqd; grind) (by omega) hr ?_
      unfold crossOf at a
      rw [hwx, hwy] at a
      exact a

/-! ### Points between two ends -/
/-- The first end: the one with the less X, or with equal X and not the greater Y. -/
def turnedB (ax ay bx cy : Int) : Bool := decide (bx < ax) || (ax == bx && decide (cy < ay))
def btwX (ax ay bx cy i n : Int) : Int := if turnedB ax ay bx cy then bx + dvr ((n - i) * (ax - bx)) n else ax + dvr (i * (bx - ax)) n
def btwY (ax ay bx cy i n : Int) : Int := if turnedB ax ay bx cy then cy + dvr ((n - i) * (ay - cy)) n else ay + dvr (i * (cy - ay)) n

theorem btw_back (ax ay bx cy i n : Int) (hn : 0 < n) : btwX bx cy ax ay (n - i) n = btwX ax ay bx cy i n ∧ btwY bx cy ax ay (n - i) n = btwY ax ay bx cy i n := by
  unfold btwX btwY
  rw [show n - (n - i) = i by omega]
  cases h1 : turnedB ax ay bx cy <;> cases h2 : turnedB bx cy ax ay
  · have : ax = bx ∧ ay = cy := by
      simp [turnedB] at h1 h2
      omega
    obtain ⟨rfl, rfl⟩ := this
    simp [dvr_zero n hn]
  · simp
  · simp
  · exfalso
    simp [turnedB] at h1 h2
    omega
theorem btw_gap {ax ay bx cy i n r : Int} (hn : 0 < n) (hi : 0 ≤ i) (hin : i ≤ n) (h : GapIs ax ay bx cy (btwX ax ay bx cy i n) (btwY ax ay bx cy i n) r) : r = 0 := by
  unfold btwX btwY at h
  cases h1 : turnedB ax ay bx cy
  · rw [h1] at h
    exact gap_round hn hi hin rfl rfl h
  · rw [h1] at h
    exact gap_round hn (show 0 ≤ n - i by omega) (by omega) rfl rfl h.symm
theorem btw_in {ax ay bx cy i n : Int} (hn : 0 < n) (hi : 0 ≤ i) (hin : i ≤ n) (lo hi' : Int) (a0 : lo ≤ ax) (a1 : ax ≤ hi') (a2 : lo ≤ ay) (a3 : ay ≤ hi') (b0 : lo ≤ bx) (b1 : bx ≤ hi') (b2 : lo ≤ cy) (b3 : cy ≤ hi') :
    (lo ≤ btwX ax ay bx cy i n ∧ btwX ax ay bx cy i n ≤ hi') ∧ lo ≤ btwY ax ay bx cy i n ∧ btwY ax ay bx cy i n ≤ hi' := by
  unfold btwX btwY
  have p1 := dvr_part (w := bx - ax) hn hi hin
  have p2 := dvr_part (w := cy - ay) hn hi hin
  have p3 := dvr_part (w := ax - bx) hn (show 0 ≤ n - i by omega) (by omega)
  have p4 := dvr_part (w := ay - cy) hn (show 0 ≤ n - i by omega) (by omega)
  generalize dvr (i * (bx - ax)) n = q1 at *
  generalize dvr (i * (cy - ay)) n = q2 at *
  generalize dvr ((n - i) * (ax - bx)) n = q3 at *
  generalize dvr ((n - i) * (ay - cy)) n = q4 at *
  split <;> omega

/-- The sign of a number. -/
def sgn (x : Int) : Int := if 0 < x then 1 else if x < 0 then -1 else 0
theorem sgn_neg (x : Int) : sgn (-x) = -sgn x := by unfold sgn; split <;> split <;> (try split) <;> omega
end Go.Proofs.YthccbipjmheoaaaDoor.Pm
