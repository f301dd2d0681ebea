/- Plain facts for chapter 2: the table of sines, the vectors of the directions, the greatest of some values. No Go in sight. Plain facts for chapter 2: moving by bearing and distance leads near to the point. No Go in sight. Plain facts for chapter 2: distances, points between two ends, distances from a segment. No Go in sight. -/
import Derived.Test.YthccbipjmheoaaaMath
namespace Go.Proofs.Ythccbipjmheoaaa.Pm

/-- The sines of 0 to 90 degrees. -/
def sinTab : List Int := [0, 17452, 34899, 52336, 69756, 87156, 104528, 121869, 139173, 156434, 173648, 190809, 207912, 224951, 241922, 258819, 275637, 292372, 309017, 325568, 
  342020, 358368, 374607, 390731, 406737, 422618, 438371, 453990, 469472, 484810, 500000, 515038, 529919, 544639, 559193, 573576, 587785, 601815, 
  615661, 629320, 642788, 656059, 669131, 681998, 694658, 707107, 719340, 731354, 743145, 754710, 766044, 777146, 788011, 798636, 809017, 819152, 
  829038, 838671, 848048, 857167, 866025, 874620, 882948, 891007, 898794, 906308, 913545, 920505, 927184, 933580, 939693, 945519, 951057, 956305, 
  961262, 965926, 970296, 974370, 978148, 981627, 984808, 987688, 990268, 992546, 994522, 996195, 997564, 998630, 999391, 999848, 1000000]

/-- The same angle from 0 to 359. -/
def ang (d : Int) : Int := d % 360
/-- The sine of 0 to 90 degrees. -/
def sinL (a : Int) : Int := sinTab.getD a.toNat 0
/-- The sine of 0 to 180 degrees. -/
def sinH (a : Int) : Int := if 180 - a < a then sinL (180 - a) else sinL a
/-- The sine of an angle. -/
def sinR (d : Int) : Int := if ang d < 180 then sinH (ang d) else -sinH (ang d - 180)
def cosR (d : Int) : Int := sinR (ang d + 90)

theorem ang_bd (d : Int) : 0 ≤ ang d ∧ ang d < 360 := by unfold ang; omega
theorem ang_in {d : Int} (h0 : 0 ≤ d) (h1 : d < 360) : ang d = d := by unfold ang; omega
theorem sin_ang (d : Int) : sinR (ang d) = sinR d := by
  have : ang (ang d) = ang d := by unfold ang; omega
  unfold sinR; rw [this]
theorem sin_same {d e : Int} (h : ang d = ang e) : sinR d = sinR e := by rw [← sin_ang d, h, sin_ang]
theorem cos_eq (d : Int) : cosR d = sinR (d + 90) := sin_same (by unfold ang; omega)
theorem sin_half (d : Int) : sinR (d + 180) = -sinR d := by
  have hb := ang_bd d
  have h : ang (d + 180) = if ang d < 180 then ang d + 180 else ang d - 180 := by unfold ang; omega
  unfold sinR
  rw [h]
  by_cases h1 : ang d < 180
  · rw [if_pos h1, if_pos h1, if_neg (by omega)]; congr 2; omega
  · rw [if_neg h1, if_neg h1, if_pos (by omega)]; simp

theorem tab_bd : (sinTab.all fun z => decide (0 ≤ z) && decide (z ≤ 1000000)) = true := by decide +kernel
theorem tab_len : sinTab.length = 91 := by decide +kernel
theorem sinL_bd (a : Int) : 0 ≤ sinL a ∧ sinL a ≤ 1000000 := by
  unfold sinL
  by_cases h : a.toNat < sinTab.length
  · have := List.all_eq_true.1 tab_bd sinTab[a.toNat] (List.getElem_mem h)
    rw [List.getD_eq_getElem?_getD, List.getElem?_eq_getElem h]
    simpa using this
  · rw [List.getD_eq_getElem?_getD, List.getElem?_eq_none (by omega)]; simp
theorem sinH_bd (a : Int) : 0 ≤ sinH a ∧ sinH a ≤ 1000000 := by
  unfold sinH; split <;> exact sinL_bd _
theorem sin_bd (d : Int) : -1000000 ≤ sinR d ∧ sinR d ≤ 1000000 := by
  unfold sinR
  split
  · have := sinH_bd (ang d); omega
  · have := sinH_bd (ang d - 180); omega

/-- The vectors of the directions 0 to 539. -/
def uL : List (Int × Int) := (List.range 540).map fun k : Nat => (sinR (k : Int), sinR ((k : Int) + 90))
theorem uL_len : uL.length = 540 := by simp [uL]
theorem uL_at (k : Nat) (h : k < uL.length) : uL[k] = (sinR k, sinR (k + 90)) := by simp [uL]

def cr (a b : Int × Int) : Int := a.2 * b.1 - a.1 * b.2
def dt (a b : Int × Int) : Int := a.1 * b.1 + a.2 * b.2

def conv1 (x m : Int × Int) : List (Int × Int) → Nat → Bool
  | z :: r, n + 1 => decide (0 ≤ cr x z) && decide (cr x z < cr m z + cr x m) && conv1 x m r n
  | _, _ => true
def convAll : List (Int × Int) → Nat → Bool
  | x :: m :: r, n + 1 => conv1 x m r 178 && convAll (m :: r) n
  | _, _ => true
theorem conv_ok : convAll uL 360 = true := by decide +kernel

theorem conv1_out (x m : Int × Int) : ∀ (l : List (Int × Int)) (n : Nat), conv1 x m l n = true → ∀ (j : Nat) (h : j < l.length), j < n → 0 ≤ cr x l[j] ∧ cr x l[j] < cr m l[j] + cr x m
  | [], _, _, _, h, _ => by simp at h
  | z :: r, 0, _, _, _, hn => by omega
  | z :: r, n + 1, hc, j, h, hn => by
    simp only [conv1, Bool.and_eq_true, decide_eq_true_eq] at hc
    cases j with
    | zero => exact hc.1
    | succ j => simpa using conv1_out x m r n hc.2 j (by simpa using h) (by omega)
theorem convAll_out : ∀ (l : List (Int × Int)) (n : Nat), convAll l n = true → ∀ (i k : Nat) (h : i + k < l.length), i < n → ∀ (_ : 2 ≤ k), k < 180 →
    0 ≤ cr (l[i]'(by omega)) l[i + k] ∧ cr (l[i]'(by omega)) l[i + k] < cr (l[i + 1]'(by omega)) l[i + k] + cr (l[i]'(by omega)) (l[i + 1]'(by omega))
  | [], _, _, _, _, h, _, _, _ => by simp at h
  | [_], _, _, _, _, h, _, _, _ => by simp at h; omega
  | _ :: _ :: _, 0, _, _, _, _, h, _, _ => by omega
  | x :: m :: r, n + 1, hc, i, k, h, hn, k2, k3 => by
    simp only [convAll, Bool.and_eq_true] at hc
    cases i with
    | zero =>
      obtain ⟨j, rfl⟩ : ∃ j, k = j + 2 := ⟨k - 2, by omega⟩
      have := conv1_out x m r 178 hc.1 j (by simp at h; omega) (by omega)
      simpa using this
    | succ i =>
      have := convAll_out (m :: r) n hc.2 i k (by simp at h ⊢; omega) (by omega) k2 k3
      simpa [Nat.add_right_comm i 1 k] using this

def near1 (u v : Int × Int) : Bool :=
  decide (0 < cr u v) && decide (10000 * (dt u u - dt u v) ≤ 89 * cr u v) && decide (10000 * (dt v v - dt u v) ≤ 89 * cr u v) && decide (999997000000 < dt u u) && decide (dt u u < 1000003000000)
def nearAll : List (Int × Int) → Nat → Bool
  | u :: v :: r, n + 1 => near1 u v && nearAll (v :: r) n
  | _, _ => true
theorem near_ok : nearAll uL 361 = true := by decide +kernel
theorem nearAll_out : ∀ (l : List (Int × Int)) (n : Nat), nearAll l n = true → ∀ (i : Nat) (h : i + 1 < l.length), i < n → near1 (l[i]'(by omega)) l[i + 1] = true
  | [], _, _, _, h, _ => by simp at h
  | [_], _, _, _, h, _ => by simp at h
  | _ :: _ :: _, 0, _, _, _, h => by omega
  | x :: m :: r, n + 1, hc, i, h, hn => by
    simp only [nearAll, Bool.and_eq_true] at hc
    cases i with
    | zero => simpa using hc.1
    | succ i => exact nearAll_out (m :: r) n hc.2 i (by simpa using h) (by omega)

/-- The vector of a direction. -/
def uv (d : Int) : Int × Int := (sinR d, sinR (d + 90))
theorem uv_ang (d : Int) : uv (ang d) = uv d := by
  unfold uv
  rw [sin_ang, sin_same (d := ang d + 90) (e := d + 90) (by unfold ang; omega)]
theorem uv_nat {d : Int} (k : Nat) (h : ang d = k) (hk : k < uL.length) : uv d = uL[k] := by
  rw [uL_at, ← uv_ang d, h]; rfl
theorem uv_of {d : Int} (k : Nat) (h : ang d = ang k) (hk : k < uL.length) : uv d = uL[k] := by
  rw [uL_at, ← uv_ang d, h, uv_ang]; rfl

theorem conv_at (d k : Int) (h2 : 2 ≤ k) (h3 : k < 180) :
    0 ≤ cr (uv d) (uv (d + k)) ∧ cr (uv d) (uv (d + k)) < cr (uv (d + 1)) (uv (d + k)) + cr (uv d) (uv (d + 1)) := by
  have hb := ang_bd d
  have hl := uL_len
  have := convAll_out uL 360 conv_ok (ang d).toNat k.toNat (by omega) (by omega) (by omega) (by omega)
  rw [← uv_of (d := d) (ang d).toNat (by unfold ang; omega), ← uv_of (d := d + 1) ((ang d).toNat + 1) (by unfold ang; omega), ← uv_of (d := d + k) ((ang d).toNat + k.toNat) (by unfold ang; omega)] at this
  exact this
theorem near_at (d : Int) : 0 < cr (uv d) (uv (d + 1)) ∧ 10000 * (dt (uv d) (uv d) - dt (uv d) (uv (d + 1))) ≤ 89 * cr (uv d) (uv (d + 1)) ∧
    10000 * (dt (uv (d + 1)) (uv (d + 1)) - dt (uv d) (uv (d + 1))) ≤ 89 * cr (uv d) (uv (d + 1)) ∧ 999997000000 < dt (uv d) (uv d) ∧ dt (uv d) (uv d) < 1000003000000 := by
  have hb := ang_bd d
  have hl := uL_len
  have := nearAll_out uL 361 near_ok (ang d).toNat (by omega) (by omega)
  rw [← uv_of (d := d) (ang d).toNat (by unfold ang; omega), ← uv_of (d := d + 1) ((ang d).toNat + 1) (by unfold ang; omega)] at this
  simp only [near1, Bool.and_eq_true, decide_eq_true_eq] at this
  obtain ⟨⟨⟨⟨h1, h2⟩, h3⟩, h4⟩, h5⟩ := this
  exact ⟨h1, h2, h3, h4, h5⟩

/-- How far a way leads in a direction. -/
def prog (wx wy : Int) (d : Int) : Int := wx * sinR d + wy * sinR (d + 90)
theorem prog_uv (wx wy d : Int) : prog wx wy d = wx * (uv d).1 + wy * (uv d).2 := rfl
theorem prog_same (wx wy : Int) {d e : Int} (h : ang d = ang e) : prog wx wy d = prog wx wy e := by
  rw [prog_uv, prog_uv, ← uv_ang d, h, uv_ang]
theorem prog_half (wx wy d : Int) : prog wx wy (d + 180) = -prog wx wy d := by
  unfold prog
  rw [sin_half, show d + 180 + 90 = d + 90 + 180 by omega, sin_half]
  grind
theorem prog_neg (wx wy d : Int) : prog (-wx) (-wy) d = -prog wx wy d := by unfold prog; grind

/-- The first of the numbers below n with the greatest value. -/
def Best (f : Int → Int) (n r : Int) : Prop := 0 ≤ r ∧ r < n ∧ (∀ i, 0 ≤ i → i < n → f i ≤ f r) ∧ ∀ i, 0 ≤ i → i < r → f i < f r
theorem Best.one {f : Int → Int} {n r s : Int} (h : Best f n r) (k : Best f n s) : r = s := by
  obtain ⟨h0, h1, h2, h3⟩ := h
  obtain ⟨k0, k1, k2, k3⟩ := k
  by_cases hl : r < s
  · have := k3 r h0 hl; have := h2 s k0 k1; omega
  · by_cases hl' : s < r
    · have := h3 s k0 hl'; have := k2 r h0 h1; omega
    · omega

theorem best_all {wx wy r : Int} (h : Best (prog wx wy) 360 r) (d : Int) : prog wx wy d ≤ prog wx wy r := by
  rw [← prog_same wx wy (d := ang d) (e := d) (by unfold ang; omega)]
  exact h.2.2.1 _ (ang_bd d).1 (ang_bd d).2

theorem most_pos {wx wy M : Int} (hw : wx ≠ 0 ∨ wy ≠ 0) (h : ∀ d, prog wx wy d ≤ M) : 0 < M := by
  have s0 : sinR 0 = 0 := by decide +kernel
  have s1 : sinR 90 = 1000000 := by decide +kernel
  have s2 : sinR 180 = 0 := by decide +kernel
  have s3 : sinR 270 = -1000000 := by decide +kernel
  have s4 : sinR 360 = 0 := by decide +kernel
  have h0 := h 0
  have h1 := h 90
  have h2 := h 180
  have h3 := h 270
  unfold prog at h0 h1 h2 h3
  simp only [show (0 : Int) + 90 = 90 from rfl, show (90 : Int) + 90 = 180 from rfl, show (180 : Int) + 90 = 270 from rfl, show (270 : Int) + 90 = 360 from rfl, s0, s1, s2, s3, s4] at h0 h1 h2 h3
  omega

theorem half_no {wx wy M : Int} (x k : Int) (hM : 0 < M) (h : ∀ d, prog wx wy d ≤ M) (h1 : prog wx wy x = M) (h2 : prog wx wy (x + k) = M) (k2 : 2 ≤ k) (k3 : k < 180) : False := by
  obtain ⟨c0, c1⟩ := conv_at x k k2 k3
  have hm := h (x + 1)
  rw [prog_uv] at h1 h2 hm
  generalize uv x = u at *
  generalize uv (x + k) = z at *
  generalize uv (x + 1) = m at *
  have e : cr u z * (wx * m.1 + wy * m.2) = (cr m z + cr u m) * M := by
    have e1 : cr u z * (wx * m.1 + wy * m.2) = cr m z * (wx * u.1 + wy * u.2) + cr u m * (wx * z.1 + wy * z.2) := by unfold cr; grind
    rw [e1, h1, h2]; grind
  have e2 : cr u z * (wx * m.1 + wy * m.2) ≤ cr u z * M := Int.mul_le_mul_of_nonneg_left hm c0
  have e3 : cr u z * M < (cr m z + cr u m) * M := Int.mul_lt_mul_of_pos_right c1 hM
  omega

theorem two_best {wx wy M : Int} (x z : Int) (hM : 0 < M) (h : ∀ d, prog wx wy d ≤ M) (h1 : prog wx wy x = M) (h2 : prog wx wy z = M) :
    (z - x) % 360 = 0 ∨ (z - x) % 360 = 1 ∨ (z - x) % 360 = 359 := by
  have hb : 0 ≤ (z - x) % 360 ∧ (z - x) % 360 < 360 := by omega
  by_cases a : (z - x) % 360 < 2
  · omega
  · by_cases b : (z - x) % 360 < 180
    · exact (half_no x ((z - x) % 360) hM h h1 (by rw [prog_same wx wy (e := z) (by unfold ang; omega)]; exact h2) (by omega) b).elim
    · by_cases c : (z - x) % 360 = 180
      · have := prog_half wx wy x
        rw [prog_same wx wy (e := z) (by unfold ang; omega)] at this
        omega
      · by_cases e : (z - x) % 360 = 359
        · omega
        · exact (half_no z ((x - z) % 360) hM h h2 (by rw [prog_same wx wy (e := x) (by unfold ang; omega)]; exact h1) (by omega) (by omega)).elim

/-- The smaller angle between two directions. -/
def turnR (a b : Int) : Int := if 360 - ang (ang a - ang b) < ang (ang a - ang b) then 360 - ang (ang a - ang b) else ang (ang a - ang b)
theorem turn_bd (a b : Int) : 0 ≤ turnR a b ∧ turnR a b ≤ 180 := by unfold turnR ang; omega
theorem turn_comm (a b : Int) : turnR a b = turnR b a := by unfold turnR ang; omega
theorem turn_self (a : Int) : turnR a a = 0 := by unfold turnR ang; omega

theorem best_back {wx wy x y : Int} (hw : wx ≠ 0 ∨ wy ≠ 0) (h : Best (prog wx wy) 360 x) (k : Best (prog (-wx) (-wy)) 360 y) : 179 ≤ turnR x y := by
  have h1 := best_all h
  have hM := most_pos hw h1
  have e1 : prog wx wy (y + 180) ≤ prog wx wy x := h1 _
  have e2 : prog (-wx) (-wy) (x + 180) ≤ prog (-wx) (-wy) y := best_all k _
  rw [prog_neg, prog_neg, prog_half] at e2
  rw [prog_half] at e1
  have := two_best x (y + 180) hM h1 rfl (by rw [prog_half]; omega)
  have hx := h.1; have hx1 := h.2.1
  have hy := k.1; have hy1 := k.2.1
  unfold turnR ang
  omega

theorem unit_sq (d : Int) : -3000000 < sinR d * sinR d + cosR d * cosR d - 1000000000000 ∧ sinR d * sinR d + cosR d * cosR d - 1000000000000 < 3000000 := by
  have h := (near_at d).2.2.2
  rw [cos_eq]
  unfold dt uv at h
  simp only at h
  omega

end Go.Proofs.Ythccbipjmheoaaa.Pm
namespace Go.Proofs.Ythccbipjmheoaaa.Pm

theorem mul_bd {a b A B : Int} (ha0 : -A ≤ a) (ha : a ≤ A) (hb0 : -B ≤ b) (hb : b ≤ B) : -(A * B) ≤ a * b ∧ a * b ≤ A * B := by
  have h1 : 0 ≤ (A - a) * (B + b) := Int.mul_nonneg (by omega) (by omega)
  have h2 : 0 ≤ (A + a) * (B - b) := Int.mul_nonneg (by omega) (by omega)
  have h3 : 0 ≤ (A - a) * (B - b) := Int.mul_nonneg (by omega) (by omega)
  have h4 : 0 ≤ (A + a) * (B + b) := Int.mul_nonneg (by omega) (by omega)
  have e1 : (A - a) * (B + b) = A * B + A * b - a * B - a * b := by grind
  have e2 : (A + a) * (B - b) = A * B - A * b + a * B - a * b := by grind
  have e3 : (A - a) * (B - b) = A * B - A * b - a * B + a * b := by grind
  have e4 : (A + a) * (B + b) = A * B + A * b + a * B + a * b := by grind
  omega
theorem sq_bd {a A : Int} (h0 : -A ≤ a) (h : a ≤ A) : a * a ≤ A * A := (mul_bd h0 h h0 h).2
theorem sq_lt {a b : Int} (hb : 0 ≤ b) (h : a * a < b * b) : a < b := by
  by_cases hl : a < b
  · exact hl
  · have := Int.mul_le_mul (show b ≤ a by omega) (show b ≤ a by omega) hb (by omega)
    omega

theorem near_q (S D P Q : Int) (hS : 0 < S) (hD : 10000 * D ≤ 89 * S) (hP : 0 ≤ P) (h : S * Q ≤ D * P) : 10000 * Q ≤ 89 * P := by
  have h1 : (10000 * D) * P ≤ (89 * S) * P := Int.mul_le_mul_of_nonneg_right hD hP
  have h2 : S * (10000 * Q) ≤ S * (89 * P) := by
    have e1 : S * (10000 * Q) = 10000 * (S * Q) := by grind
    have e2 : S * (89 * P) = (89 * S) * P := by grind
    have e3 : (10000 * D) * P = 10000 * (D * P) := by grind
    omega
  exact Int.le_of_mul_le_mul_left h2 hS

/-- How far a way leads to the left of a direction. -/
def aside (wx wy d : Int) : Int := wx * (uv d).2 - wy * (uv d).1
theorem aside_le (wx wy d : Int) (h : prog wx wy (d + 1) ≤ prog wx wy d) (h0 : 0 ≤ prog wx wy d) : 10000 * aside wx wy d ≤ 89 * prog wx wy d := by
  obtain ⟨a1, a2, _, _, _⟩ := near_at d
  unfold aside
  rw [prog_uv] at h h0 ⊢
  rw [prog_uv] at h
  generalize uv (d + 1) = v at *
  generalize uv d = u at *
  refine near_q (cr u v) (dt u u - dt u v) _ _ a1 a2 h0 ?_
  have h1 : 0 ≤ dt u u := by
    unfold dt
    have e1 : 0 ≤ u.1 * u.1 := by rcases Int.le_total 0 u.1 with h | h; exact Int.mul_nonneg h h; exact Int.mul_nonneg_of_nonpos_of_nonpos h h
    have e2 : 0 ≤ u.2 * u.2 := by rcases Int.le_total 0 u.2 with h | h; exact Int.mul_nonneg h h; exact Int.mul_nonneg_of_nonpos_of_nonpos h h
    omega
  have h2 := Int.mul_le_mul_of_nonneg_left h h1
  have e : dt u u * (wx * v.1 + wy * v.2) = dt u v * (wx * u.1 + wy * u.2) + cr u v * (wx * u.2 - wy * u.1) := by unfold dt cr; grind
  have e2 : (dt u u - dt u v) * (wx * u.1 + wy * u.2) = dt u u * (wx * u.1 + wy * u.2) - dt u v * (wx * u.1 + wy * u.2) := by grind
  omega
theorem aside_ge (wx wy d : Int) (h : prog wx wy d ≤ prog wx wy (d + 1)) (h0 : 0 ≤ prog wx wy (d + 1)) : -(89 * prog wx wy (d + 1)) ≤ 10000 * aside wx wy (d + 1) := by
  obtain ⟨a1, _, a2, _, _⟩ := near_at d
  unfold aside
  rw [prog_uv, prog_uv] at h
  rw [prog_uv] at h0 ⊢
  generalize uv (d + 1) = v at *
  generalize uv d = u at *
  have h1 : 0 ≤ dt v v := by
    unfold dt
    have e1 : 0 ≤ v.1 * v.1 := by rcases Int.le_total 0 v.1 with h | h; exact Int.mul_nonneg h h; exact Int.mul_nonneg_of_nonpos_of_nonpos h h
    have e2 : 0 ≤ v.2 * v.2 := by rcases Int.le_total 0 v.2 with h | h; exact Int.mul_nonneg h h; exact Int.mul_nonneg_of_nonpos_of_nonpos h h
    omega
  have h2 := Int.mul_le_mul_of_nonneg_left h h1
  have e : dt v v * (wx * u.1 + wy * u.2) = dt u v * (wx * v.1 + wy * v.2) - cr u v * (wx * v.2 - wy * v.1) := by unfold dt cr; grind
  have e2 : (dt v v - dt u v) * (wx * v.1 + wy * v.2) = dt v v * (wx * v.1 + wy * v.2) - dt u v * (wx * v.1 + wy * v.2) := by grind
  have e3 : cr u v * -(wx * v.2 - wy * v.1) = -(cr u v * (wx * v.2 - wy * v.1)) := by grind
  have := near_q (cr u v) (dt v v - dt u v) (wx * v.1 + wy * v.2) (-(wx * v.2 - wy * v.1)) a1 a2 h0 (by omega)
  omega

/-- The arithmetic of the move: s, c the vector, P and Q the way's parts along it and beside it, d its length rounded down. -/
theorem move_arith (wx wy s c d rx ry : Int) (hs0 : -1000000 ≤ s) (hs : s ≤ 1000000) (hc0 : -1000000 ≤ c) (hc : c ≤ 1000000)
    (hU0 : 999997000000 < s * s + c * c) (hU : s * s + c * c < 1000003000000)
    (hP : 0 ≤ wx * s + wy * c) (hQ : 10000 * (wx * c - wy * s) ≤ 89 * (wx * s + wy * c)) (hQ0 : -(89 * (wx * s + wy * c)) ≤ 10000 * (wx * c - wy * s))
    (hd0 : 0 ≤ d) (hd : d * d ≤ wx * wx + wy * wy) (hd1 : wx * wx + wy * wy < (d + 1) * (d + 1))
    (tx0 : -1000000 ≤ 2 * (d * s - rx * 1000000)) (tx1 : 2 * (d * s - rx * 1000000) ≤ 1000000)
    (ty0 : -1000000 ≤ 2 * (d * c - ry * 1000000)) (ty1 : 2 * (d * c - ry * 1000000) ≤ 1000000) :
    (wx - rx) * (wx - rx) + (wy - ry) * (wy - ry) < (d / 100 + 4) * (d / 100 + 4) := by
  obtain ⟨U, hUe⟩ : ∃ U, s * s + c * c = U := ⟨_, rfl⟩
  obtain ⟨P, hPe⟩ : ∃ P, wx * s + wy * c = P := ⟨_, rfl⟩
  obtain ⟨Q, hQe⟩ : ∃ Q, wx * c - wy * s = Q := ⟨_, rfl⟩
  obtain ⟨N, hNe⟩ : ∃ N, wx * wx + wy * wy = N := ⟨_, rfl⟩
  obtain ⟨tx, htx⟩ : ∃ t, d * s - rx * 1000000 = t := ⟨_, rfl⟩
  obtain ⟨ty, hty⟩ : ∃ t, d * c - ry * 1000000 = t := ⟨_, rfl⟩
  have hL : P * P + Q * Q = N * U := by rw [← hPe, ← hQe, ← hNe, ← hUe]; grind
  rw [hUe] at hU0 hU
  rw [hPe] at hP hQ hQ0
  rw [hQe] at hQ hQ0
  rw [hNe] at hd hd1
  rw [htx] at tx0 tx1
  rw [hty] at ty0 ty1
  have hQQ : 0 ≤ Q * Q := by rcases Int.le_total 0 Q with h | h; exact Int.mul_nonneg h h; exact Int.mul_nonneg_of_nonpos_of_nonpos h h
  -- P from above
  have hNU : N * U ≤ (d + 1) * (d + 1) * U := Int.mul_le_mul_of_nonneg_right (by omega) (by omega)
  have hNU2 : (d + 1) * (d + 1) * U ≤ (d + 1) * (d + 1) * 1000004000004 := Int.mul_le_mul_of_nonneg_left (by omega) (Int.mul_nonneg (by omega) (by omega))
  have hP1 : P ≤ 1000002 * (d + 1) := by
    by_cases h : P ≤ 1000002 * (d + 1)
    · exact h
    · have h1 := Int.mul_lt_mul_of_pos_left (show 1000002 * (d + 1) < P by omega) (show 0 < 1000002 * (d + 1) by omega)
      have h2 := Int.mul_lt_mul_of_pos_right (show 1000002 * (d + 1) < P by omega) (show 0 < P by omega)
      have e1 : 1000002 * (d + 1) * (1000002 * (d + 1)) = (d + 1) * (d + 1) * 1000004000004 := by grind
      omega
  -- P from below
  have hdU : d * d * 999997000000 ≤ d * d * U := Int.mul_le_mul_of_nonneg_left (by omega) (Int.mul_nonneg hd0 hd0)
  have hdU2 : d * d * U ≤ N * U := Int.mul_le_mul_of_nonneg_right hd (by omega)
  have hQ2 : 10000 * Q * (10000 * Q) ≤ 89 * P * (89 * P) := sq_bd hQ0 hQ
  have hP0 : 999950 * d ≤ P := by
    by_cases h : 999950 * d ≤ P
    · exact h
    · have h1 : P * P ≤ 999950 * d * (999950 * d) := Int.mul_le_mul (by omega) (by omega) hP (by omega)
      have e1 : 999950 * d * (999950 * d) = 999900002500 * (d * d) := by grind
      have e2 : 10000 * Q * (10000 * Q) = 100000000 * (Q * Q) := by grind
      have e3 : 89 * P * (89 * P) = 7921 * (P * P) := by grind
      have hdd : 0 ≤ d * d := Int.mul_nonneg hd0 hd0
      have h3 : d * d = 0 := by omega
      have : d = 0 := by rcases Int.mul_eq_zero.1 h3 with h | h <;> exact h
      omega
  -- the rest along and beside the vector
  have hdUU : d * U ≤ d * 1000003000000 := Int.mul_le_mul_of_nonneg_left (by omega) hd0
  have hdUL : d * 999997000000 ≤ d * U := Int.mul_le_mul_of_nonneg_left (by omega) hd0
  obtain ⟨m1, m2⟩ := mul_bd (a := tx) (b := s) (A := 500000) (B := 1000000) (by omega) (by omega) hs0 hs
  obtain ⟨m3, m4⟩ := mul_bd (a := ty) (b := c) (A := 500000) (B := 1000000) (by omega) (by omega) hc0 hc
  obtain ⟨m5, m6⟩ := mul_bd (a := tx) (b := c) (A := 500000) (B := 1000000) (by omega) (by omega) hc0 hc
  obtain ⟨m7, m8⟩ := mul_bd (a := ty) (b := s) (A := 500000) (B := 1000000) (by omega) (by omega) hs0 hs
  have ea : 1000000 * ((wx - rx) * s + (wy - ry) * c) = 1000000 * P - d * U + (tx * s + ty * c) := by rw [← hPe, ← hUe, ← htx, ← hty]; grind
  have eb : 1000000 * ((wx - rx) * c - (wy - ry) * s) = 1000000 * Q + (tx * c - ty * s) := by rw [← hQe, ← htx, ← hty]; grind
  have eE : ((wx - rx) * s + (wy - ry) * c) * ((wx - rx) * s + (wy - ry) * c) + ((wx - rx) * c - (wy - ry) * s) * ((wx - rx) * c - (wy - ry) * s) = ((wx - rx) * (wx - rx) + (wy - ry) * (wy - ry)) * U := by rw [← hUe]; grind
  obtain ⟨a, ha⟩ : ∃ a, (wx - rx) * s + (wy - ry) * c = a := ⟨_, rfl⟩
  obtain ⟨b, hb⟩ : ∃ b, (wx - rx) * c - (wy - ry) * s = b := ⟨_, rfl⟩
  rw [ha, hb] at eE
  rw [ha] at ea
  rw [hb] at eb
  obtain ⟨E, hE⟩ : ∃ E, (wx - rx) * (wx - rx) + (wy - ry) * (wy - ry) = E := ⟨_, rfl⟩
  rw [hE] at eE ⊢
  have a1 : -(2000100 + 53 * d) ≤ a ∧ a ≤ 2000100 + 53 * d := by omega
  have b1 : -(1008910 + 8902 * d) ≤ b ∧ b ≤ 1008910 + 8902 * d := by omega
  have a2 := sq_bd a1.1 a1.2
  have b2 := sq_bd b1.1 b1.2
  obtain ⟨A, hA⟩ : ∃ A, 2000100 + 53 * d = A := ⟨_, rfl⟩
  obtain ⟨B, hB⟩ : ∃ B, 1008910 + 8902 * d = B := ⟨_, rfl⟩
  rw [hA] at a2
  rw [hB] at b2
  have hAB : 0 ≤ A * B := Int.mul_nonneg (by omega) (by omega)
  have e1 : (A + B) * (A + B) = A * A + B * B + 2 * (A * B) := by grind
  obtain ⟨K, hK⟩ : ∃ K, d / 100 + 4 = K := ⟨_, rfl⟩
  rw [hK]
  have hL1 : A + B < 999998 * K := by omega
  have hL2 : (A + B) * (A + B) < 999998 * K * (999998 * K) := by
    have h1 := Int.mul_lt_mul_of_pos_left hL1 (show 0 < A + B by omega)
    have h2 := Int.mul_lt_mul_of_pos_right hL1 (show 0 < 999998 * K by omega)
    omega
  have e2 : 999998 * K * (999998 * K) = K * K * 999996000004 := by grind
  have hKU : K * K * 999996000004 ≤ K * K * U := Int.mul_le_mul_of_nonneg_left (by omega) (Int.mul_nonneg (by omega) (by omega))
  have hlt : E * U < K * K * U := by omega
  exact Int.lt_of_mul_lt_mul_right hlt (by omega)

/-- Moving by the bearing and the distance leads near. -/
theorem move_near {wx wy x d rx ry : Int} (h : Best (prog wx wy) 360 x) (hd0 : 0 ≤ d) (hd : d * d ≤ wx * wx + wy * wy) (hd1 : wx * wx + wy * wy < (d + 1) * (d + 1))
    (tx0 : -1000000 ≤ 2 * (d * sinR x - rx * 1000000)) (tx1 : 2 * (d * sinR x - rx * 1000000) ≤ 1000000)
    (ty0 : -1000000 ≤ 2 * (d * cosR x - ry * 1000000)) (ty1 : 2 * (d * cosR x - ry * 1000000) ≤ 1000000) :
    (wx - rx) * (wx - rx) + (wy - ry) * (wy - ry) < (d / 100 + 4) * (d / 100 + 4) := by
  rw [cos_eq] at ty0 ty1
  have hall := best_all h
  have h0 : 0 ≤ prog wx wy x := by
    have := hall (x + 180)
    rw [prog_half] at this
    omega
  have q1 := aside_le wx wy x (hall (x + 1)) h0
  have q2 := aside_ge wx wy (x - 1)
  rw [show x - 1 + 1 = x by omega] at q2
  have q3 := q2 (hall (x - 1)) h0
  obtain ⟨_, _, _, u0, u1⟩ := near_at x
  exact move_arith wx wy (sinR x) (sinR (x + 90)) d rx ry (sin_bd _).1 (sin_bd _).2 (sin_bd _).1 (sin_bd _).2 u0 u1 h0 q1 q3 hd0 hd hd1 tx0 tx1 ty0 ty1
end Go.Proofs.Ythccbipjmheoaaa.Pm
namespace Go.Proofs.Ythccbipjmheoaaa.Pm

theorem sq_nn (a : Int) : 0 ≤ a * a := by rcases Int.le_total 0 a with h | h; exact Int.mul_nonneg h h; exact Int.mul_nonneg_of_nonpos_of_nonpos h h
theorem sq_zero {a : Int} (h : a * a ≤ 0) : a = 0 := by
  have := sq_nn a
  rcases Int.mul_eq_zero.1 (show a * a = 0 by omega) with h | h <;> exact h

theorem qnear (a b : Int) (hb : 0 < b) : 2 * (a - quo a b * b) ≤ b ∧ -b ≤ 2 * (a - quo a b * b) := by
  have e : 2 * b * quo a b + (2 * a + b) % (2 * b) = 2 * a + b := Int.mul_ediv_add_emod (2 * a + b) (2 * b)
  have h0 := Int.emod_nonneg (2 * a + b) (show 2 * b ≠ 0 by omega)
  have h1 := Int.emod_lt_of_pos (2 * a + b) (show 0 < 2 * b by omega)
  have hm : 2 * b * quo a b = 2 * (quo a b * b) := by rw [Int.mul_assoc, Int.mul_comm b]
  rw [hm] at e
  generalize quo a b * b = t at *
  omega
theorem dnear (a b : Int) (hb : 0 < b) : -b ≤ 2 * (a - dvr a b * b) ∧ 2 * (a - dvr a b * b) ≤ b := by
  unfold dvr
  rw [if_neg (by omega)]
  unfold dvp
  split
  · have := qnear (-a) b hb
    rw [Int.neg_mul]
    omega
  · have := qnear a b hb; omega
theorem dvr_zero (b : Int) (hb : 0 < b) : dvr 0 b = 0 := by
  unfold dvr dvp quo
  rw [if_neg (by omega), if_neg (by omega)]
  exact Int.ediv_eq_zero_of_lt (by omega) (by omega)
/-- A quotient lies between 0 and the number's bound, in its direction. -/
theorem dvr_part {i w n : Int} (hn : 0 < n) (hi : 0 ≤ i) (hin : i ≤ n) : (0 ≤ w → 0 ≤ dvr (i * w) n ∧ dvr (i * w) n ≤ w) ∧ (w ≤ 0 → w ≤ dvr (i * w) n ∧ dvr (i * w) n ≤ 0) := by
  obtain ⟨h0, h1⟩ := dnear (i * w) n hn
  constructor
  · intro hw
    have a1 : 0 ≤ i * w := Int.mul_nonneg hi hw
    have a2 : i * w ≤ n * w := Int.mul_le_mul_of_nonneg_right hin hw
    constructor
    · by_cases h : 0 ≤ dvr (i * w) n
      · exact h
      · have := Int.mul_le_mul_of_nonneg_right (show dvr (i * w) n ≤ -1 by omega) (show 0 ≤ n by omega)
        omega
    · by_cases h : dvr (i * w) n ≤ w
      · exact h
      · have := Int.mul_le_mul_of_nonneg_right (show w + 1 ≤ dvr (i * w) n by omega) (show 0 ≤ n by omega)
        rw [Int.add_mul] at this
        rw [Int.mul_comm n w] at a2
        omega
  · intro hw
    have a1 : i * w ≤ 0 := Int.mul_nonpos_of_nonneg_of_nonpos hi hw
    have a2 : n * w ≤ i * w := Int.mul_le_mul_of_nonpos_right hin hw
    constructor
    · by_cases h : w ≤ dvr (i * w) n
      · exact h
      · have := Int.mul_le_mul_of_nonneg_right (show dvr (i * w) n ≤ w - 1 by omega) (show 0 ≤ n by omega)
        rw [Int.sub_mul] at this
        rw [Int.mul_comm n w] at a2
        omega
    · by_cases h : dvr (i * w) n ≤ 0
      · exact h
      · have := Int.mul_le_mul_of_nonneg_right (show 1 ≤ dvr (i * w) n by omega) (show 0 ≤ n by omega)
        omega

theorem Root.mono {m n r s : Int} (h : Root m r) (k : Root n s) (hm : 0 ≤ m) (hmn : m ≤ n) : r ≤ s := by
  have a := (h.2.2.2 hm).1
  have b := (k.2.2.2 (by omega)).2
  have : r < s + 1 := sq_lt (by have := k.1; omega) (by omega)
  omega
theorem Root.zero {n r : Int} (h : Root n r) (h0 : 0 ≤ n) (h1 : n < 1) : r = 0 := by
  have a := (h.2.2.2 h0).1
  exact sq_zero (by omega)

/-- The square of the distance of two points. -/
def sqd (ax ay bx cy : Int) : Int := (ax - bx) * (ax - bx) + (ay - cy) * (ay - cy)
theorem sqd_nn (ax ay bx cy : Int) : 0 ≤ sqd ax ay bx cy := by
  have := sq_nn (ax - bx); have := sq_nn (ay - cy); unfold sqd; omega
theorem sqd_comm (ax ay bx cy : Int) : sqd ax ay bx cy = sqd bx cy ax ay := by unfold sqd; grind
theorem sqd_zero {ax ay bx cy : Int} (h : sqd ax ay bx cy ≤ 0) : ax = bx ∧ ay = cy := by
  have h1 := sq_nn (ax - bx); have h2 := sq_nn (ay - cy)
  unfold sqd at h
  have a := sq_zero (a := ax - bx) (by omega)
  have b := sq_zero (a := ay - cy) (by omega)
  omega

/-- The inequality of triangles, rounded down. -/
theorem triangle {ax ay bx cy px py r s t : Int} (h1 : Root (sqd ax ay bx cy) r) (h2 : Root (sqd ax ay px py) s) (h3 : Root (sqd px py bx cy) t) : r ≤ s + t + 1 := by
  have a := (h1.2.2.2 (sqd_nn _ _ _ _)).1
  have b := (h2.2.2.2 (sqd_nn _ _ _ _)).2
  have c := (h3.2.2.2 (sqd_nn _ _ _ _)).2
  have n2 := sqd_nn ax ay px py
  have n3 := sqd_nn px py bx cy
  have s0 := h2.1
  have t0 := h3.1
  obtain ⟨D, hD⟩ : ∃ D, (ax - px) * (px - bx) + (ay - py) * (py - cy) = D := ⟨_, rfl⟩
  obtain ⟨X, hX⟩ : ∃ X, (ax - px) * (py - cy) - (ay - py) * (px - bx) = X := ⟨_, rfl⟩
  have e1 : sqd ax ay bx cy = sqd ax ay px py + sqd px py bx cy + 2 * D := by unfold sqd; grind
  have e2 : D * D + X * X = sqd ax ay px py * sqd px py bx cy := by rw [← hD, ← hX]; unfold sqd; grind
  have x0 := sq_nn X
  generalize sqd ax ay px py = m at *
  generalize sqd px py bx cy = n at *
  generalize sqd ax ay bx cy = l at *
  have m1 : m * n ≤ m * ((t + 1) * (t + 1)) := Int.mul_le_mul_of_nonneg_left (by omega) n2
  have m2 : m * ((t + 1) * (t + 1)) ≤ (s + 1) * (s + 1) * ((t + 1) * (t + 1)) := Int.mul_le_mul_of_nonneg_right (by omega) (sq_nn _)
  have e3 : (s + 1) * (s + 1) * ((t + 1) * (t + 1)) = (s + 1) * (t + 1) * ((s + 1) * (t + 1)) := by grind
  have k0 : 0 ≤ (s + 1) * (t + 1) := Int.mul_nonneg (by omega) (by omega)
  have hDk : D ≤ (s + 1) * (t + 1) := by
    by_cases h : D ≤ (s + 1) * (t + 1)
    · exact h
    · have := Int.mul_le_mul (show (s + 1) * (t + 1) + 1 ≤ D by omega) (show (s + 1) * (t + 1) + 1 ≤ D by omega) (by omega) (by omega)
      have e4 : ((s + 1) * (t + 1) + 1) * ((s + 1) * (t + 1) + 1) = (s + 1) * (t + 1) * ((s + 1) * (t + 1)) + 2 * ((s + 1) * (t + 1)) + 1 := by grind
      omega
  have e5 : (s + t + 2) * (s + t + 2) = (s + 1) * (s + 1) + (t + 1) * (t + 1) + 2 * ((s + 1) * (t + 1)) := by grind
  have : r < s + t + 2 := sq_lt (by omega) (by omega)
  omega

/-! ### Segments -/
def alongOf (ax ay bx cy px py : Int) : Int := (bx - ax) * (px - ax) + (cy - ay) * (py - ay)
def crossOf (ax ay bx cy px py : Int) : Int := (bx - ax) * (py - ay) - (cy - ay) * (px - ax)
/-- What it is to be the distance of a point from a segment, rounded down. -/
def GapIs (ax ay bx cy px py r : Int) : Prop :=
  if alongOf ax ay bx cy px py ≤ 0 then Root (sqd ax ay px py) r
  else if sqd ax ay bx cy ≤ alongOf ax ay bx cy px py then Root (sqd bx cy px py) r
  else 0 ≤ r ∧ r * r * sqd ax ay bx cy ≤ crossOf ax ay bx cy px py * crossOf ax ay bx cy px py ∧ crossOf ax ay bx cy px py * crossOf ax ay bx cy px py < (r + 1) * (r + 1) * sqd ax ay bx cy

theorem GapIs.nn {ax ay bx cy px py r : Int} (h : GapIs ax ay bx cy px py r) : 0 ≤ r := by
  unfold GapIs at h
  split at h
  · exact h.1
  · split at h
    · exact h.1
    · exact h.1
theorem GapIs.one {ax ay bx cy px py r s : Int} (h : GapIs ax ay bx cy px py r) (k : GapIs ax ay bx cy px py s) : r = s := by
  have hr := h.nn
  have hs := k.nn
  unfold GapIs at h k
  by_cases h1 : alongOf ax ay bx cy px py ≤ 0
  · rw [if_pos h1] at h k; exact h.one k
  · rw [if_neg h1] at h k
    by_cases h2 : sqd ax ay bx cy ≤ alongOf ax ay bx cy px py
    · rw [if_pos h2] at h k; exact h.one k
    · rw [if_neg h2] at h k
      obtain ⟨_, a, b⟩ := h
      obtain ⟨_, c, d⟩ := k
      generalize crossOf ax ay bx cy px py * crossOf ax ay bx cy px py = x at *
      have h0 := sqd_nn ax ay bx cy
      generalize sqd ax ay bx cy = w at *
      have e1 : r * r < (s + 1) * (s + 1) := Int.lt_of_mul_lt_mul_right (Int.lt_of_le_of_lt a d) h0
      have e2 : s * s < (r + 1) * (r + 1) := Int.lt_of_mul_lt_mul_right (Int.lt_of_le_of_lt c b) h0
      have := sq_lt (show 0 ≤ s + 1 by omega) e1
      have := sq_lt (show 0 ≤ r + 1 by omega) e2
      omega
theorem along_back (ax ay bx cy px py : Int) : alongOf bx cy ax ay px py = sqd ax ay bx cy - alongOf ax ay bx cy px py := by unfold alongOf sqd; grind
theorem cross_back (ax ay bx cy px py : Int) : crossOf bx cy ax ay px py = -crossOf ax ay bx cy px py := by unfold crossOf; grind
theorem GapIs.symm {ax ay bx cy px py r : Int} (h : GapIs ax ay bx cy px py r) : GapIs bx cy ax ay px py r := by
  unfold GapIs at h ⊢
  rw [along_back, cross_back, ← sqd_comm ax ay bx cy]
  have h0 := sqd_nn ax ay bx cy
  by_cases h1 : alongOf ax ay bx cy px py ≤ 0
  · rw [if_pos h1] at h
    by_cases h2 : sqd ax ay bx cy - alongOf ax ay bx cy px py ≤ 0
    · obtain ⟨rfl, rfl⟩ := sqd_zero (show sqd ax ay bx cy ≤ 0 by omega)
      rw [if_pos h2]; exact h
    · rw [if_neg h2, if_pos (by omega)]; exact h
  · rw [if_neg h1] at h
    by_cases h2 : sqd ax ay bx cy ≤ alongOf ax ay bx cy px py
    · rw [if_pos h2] at h
      rw [if_pos (by omega)]; exact h
    · rw [if_neg h2] at h
      rw [if_neg (by omega), if_neg (by omega), Int.neg_mul_neg]; exact h
theorem GapIs.le {ax ay bx cy px py r d : Int} (h : GapIs ax ay bx cy px py r) (k : Root (sqd ax ay px py) d) : r ≤ d := by
  have hr := h.nn
  unfold GapIs at h
  by_cases h1 : alongOf ax ay bx cy px py ≤ 0
  · rw [if_pos h1] at h; exact Int.le_of_eq (h.one k)
  · rw [if_neg h1] at h
    by_cases h2 : sqd ax ay bx cy ≤ alongOf ax ay bx cy px py
    · rw [if_pos h2] at h
      refine h.mono k (sqd_nn _ _ _ _) ?_
      have e : sqd bx cy px py = sqd ax ay px py + sqd ax ay bx cy - 2 * alongOf ax ay bx cy px py := by unfold sqd alongOf; grind
      omega
    · rw [if_neg h2] at h
      obtain ⟨_, a, _⟩ := h
      have e : crossOf ax ay bx cy px py * crossOf ax ay bx cy px py + alongOf ax ay bx cy px py * alongOf ax ay bx cy px py = sqd ax ay px py * sqd ax ay bx cy := by unfold crossOf alongOf sqd; grind
      have q := sq_nn (alongOf ax ay bx cy px py)
      have e1 : r * r ≤ sqd ax ay px py := by
        refine Int.le_of_mul_le_mul_right (a := sqd ax ay bx cy) ?_ (by omega)
        omega
      have e2 := (k.2.2.2 (sqd_nn _ _ _ _)).2
      have e3 : r < d + 1 := sq_lt (by have := k.1; omega) (by omega)
      omega

/-- A point that is rounded from one of a segment lies less than a metre from an end that it has passed. -/
theorem end_near {wx wy vx vy tx ty i n : Int} (hn : 0 < n) (hi : 0 ≤ i) (hx : n * vx = i * wx + tx) (hy : n * vy = i * wy + ty)
    (tx0 : -n ≤ 2 * tx) (tx1 : 2 * tx ≤ n) (ty0 : -n ≤ 2 * ty) (ty1 : 2 * ty ≤ n) (h : wx * vx + wy * vy ≤ 0) : vx * vx + vy * vy < 1 := by
  have a := sq_bd tx0 tx1
  have b := sq_bd ty0 ty1
  obtain ⟨V, hV⟩ : ∃ V, vx * vx + vy * vy = V := ⟨_, rfl⟩
  obtain ⟨D, hD⟩ : ∃ D, wx * vx + wy * vy = D := ⟨_, rfl⟩
  have e1 : n * n * V = i * (n * D) + (tx * (n * vx) + ty * (n * vy)) := by rw [← hV, ← hD]; grind
  have e2 : tx * (n * vx) + ty * (n * vy) = i * (wx * tx + wy * ty) + (tx * tx + ty * ty) := by rw [hx, hy]; grind
  have e3 : n * D = i * (wx * wx + wy * wy) + (wx * tx + wy * ty) := by rw [← hD]; grind
  have q0 := sq_nn wx
  have q1 := sq_nn wy
  have m1 : n * D ≤ 0 := Int.mul_nonpos_of_nonneg_of_nonpos (by omega) (by omega)
  have m2 : i * (n * D) ≤ 0 := Int.mul_nonpos_of_nonneg_of_nonpos hi m1
  have m3 : 0 ≤ i * (wx * wx + wy * wy) := Int.mul_nonneg hi (by omega)
  have m4 : i * (wx * tx + wy * ty) ≤ 0 := Int.mul_nonpos_of_nonneg_of_nonpos hi (by omega)
  have m5 : 0 < n * n := Int.mul_pos hn hn
  have e4 : 2 * tx * (2 * tx) = 4 * (tx * tx) := by grind
  have e5 : 2 * ty * (2 * ty) = 4 * (ty * ty) := by grind
  rw [hV]
  refine Int.lt_of_mul_lt_mul_left (a := n * n) ?_ (by omega)
  omega
theorem side_near {wx wy vx vy tx ty i n r W : Int} (hn : 0 < n) (hx : n * vx = i * wx + tx) (hy : n * vy = i * wy + ty)
    (tx0 : -n ≤ 2 * tx) (tx1 : 2 * tx ≤ n) (ty0 : -n ≤ 2 * ty) (ty1 : 2 * ty ≤ n) (hW : wx * wx + wy * wy = W) (hW0 : 0 < W) (hr : 0 ≤ r) (h : r * r * W ≤ (wx * vy - wy * vx) * (wx * vy - wy * vx)) : r = 0 := by
  have a := sq_bd tx0 tx1
  have b := sq_bd ty0 ty1
  obtain ⟨X, hX⟩ : ∃ X, wx * vy - wy * vx = X := ⟨_, rfl⟩
  rw [hX] at h
  have e1 : n * X = wx * ty - wy * tx := by rw [← hX]; grind
  have e2 : n * n * (X * X) = (wx * ty - wy * tx) * (wx * ty - wy * tx) := by rw [← e1]; grind
  have e3 : (wx * ty - wy * tx) * (wx * ty - wy * tx) + (wx * tx + wy * ty) * (wx * tx + wy * ty) = W * (tx * tx + ty * ty) := by rw [← hW]; grind
  have q := sq_nn (wx * tx + wy * ty)
  have e4 : 2 * tx * (2 * tx) = 4 * (tx * tx) := by grind
  have e5 : 2 * ty * (2 * ty) = 4 * (ty * ty) := by grind
  have m1 : W * (tx * tx + ty * ty) * 2 ≤ W * (n * n) := by
    have : W * ((tx * tx + ty * ty) * 2) ≤ W * (n * n) := Int.mul_le_mul_of_nonneg_left (by omega) (by omega)
    rw [Int.mul_assoc]; exact this
  have m5 : 0 < n * n := Int.mul_pos hn hn
  have m6 : X * X * 2 ≤ W := by
    refine Int.le_of_mul_le_mul_left (a := n * n) ?_ m5
    have e6 : n * n * (X * X * 2) = n * n * (X * X) * 2 := by grind
    rw [e6, Int.mul_comm (n * n) W]
    omega
  by_cases hz : r = 0
  · exact hz
  · have m7 : 1 * W ≤ r * r * W := Int.mul_le_mul_of_nonneg_right (by have := Int.mul_le_mul (show 1 ≤ r by omega) (show 1 ≤ r by omega) (by omega) (by omega); omega) (by omega)
    omega

theorem gap_round {ax ay bx cy px py i n r : Int} (hn : 0 < n) (hi : 0 ≤ i) (hin : i ≤ n)
    (hx : px = ax + dvr (i * (bx - ax)) n) (hy : py = ay + dvr (i * (cy - ay)) n) (h : GapIs ax ay bx cy px py r) : r = 0 := by
  obtain ⟨x0, x1⟩ := dnear (i * (bx - ax)) n hn
  obtain ⟨y0, y1⟩ := dnear (i * (cy - ay)) n hn
  obtain ⟨wx, hwx⟩ : ∃ w, bx - ax = w := ⟨_, rfl⟩
  obtain ⟨wy, hwy⟩ : ∃ w, cy - ay = w := ⟨_, rfl⟩
  rw [hwx] at hx x0 x1
  rw [hwy] at hy y0 y1
  obtain ⟨tx, htx⟩ : ∃ t, i * wx - dvr (i * wx) n * n = t := ⟨_, rfl⟩
  obtain ⟨ty, hty⟩ : ∃ t, i * wy - dvr (i * wy) n * n = t := ⟨_, rfl⟩
  rw [htx] at x0 x1
  rw [hty] at y0 y1
  have vx : n * (px - ax) = i * wx + -tx := by rw [show px - ax = dvr (i * wx) n by omega, ← htx]; grind
  have vy : n * (py - ay) = i * wy + -ty := by rw [show py - ay = dvr (i * wy) n by omega, ← hty]; grind
  have hr := h.nn
  have nn := sqd_nn ax ay px py
  have nn2 := sqd_nn bx cy px py
  unfold GapIs at h
  by_cases h1 : alongOf ax ay bx cy px py ≤ 0
  · rw [if_pos h1] at h
    refine h.zero nn ?_
    have := end_near (wx := wx) (wy := wy) hn hi vx vy (by omega) (by omega) (by omega) (by omega) (by unfold alongOf at h1; rw [hwx, hwy] at h1; exact h1)
    have e : sqd ax ay px py = (px - ax) * (px - ax) + (py - ay) * (py - ay) := by unfold sqd; grind
    omega
  · rw [if_neg h1] at h
    by_cases h2 : sqd ax ay bx cy ≤ alongOf ax ay bx cy px py
    · rw [if_pos h2] at h
      refine h.zero nn2 ?_
      have vx2 : n * (bx - px) = (n - i) * wx + tx := by rw [show bx - px = wx - (px - ax) by omega, Int.mul_sub, vx]; grind
      have vy2 : n * (cy - py) = (n - i) * wy + ty := by rw [show cy - py = wy - (py - ay) by omega, Int.mul_sub, vy]; grind
      have e0 : wx * (bx - px) + wy * (cy - py) = sqd ax ay bx cy - alongOf ax ay bx cy px py := by rw [← hwx, ← hwy]; unfold sqd alongOf; grind
      have := end_near (wx := wx) (wy := wy) hn (show 0 ≤ n - i by omega) vx2 vy2 (by omega) (by omega) (by omega) (by omega) (by omega)
      unfold sqd; omega
    · rw [if_neg h2] at h
      obtain ⟨_, a, _⟩ := h
      refine side_near (wx := wx) (wy := wy) (W := sqd ax ay bx cy) hn vx vy (by omega) (by omega) (by omega) (by omega) (by rw [← hwx, ← hwy]; unfold sqd; grind) (by omega) hr ?_
      unfold crossOf at a
      rw [hwx, hwy] at a
      exact a

/-! ### Points between two ends -/
/-- The first end: the one with the less X, or with equal X and not the greater Y. -/
def turnedB (ax ay bx cy : Int) : Bool := decide (bx < ax) || (ax == bx && decide (cy < ay))
def btwX (ax ay bx cy i n : Int) : Int := if turnedB ax ay bx cy then bx + dvr ((n - i) * (ax - bx)) n else ax + dvr (i * (bx - ax)) n
def btwY (ax ay bx cy i n : Int) : Int := if turnedB ax ay bx cy then cy + dvr ((n - i) * (ay - cy)) n else ay + dvr (i * (cy - ay)) n

theorem btw_back (ax ay bx cy i n : Int) (hn : 0 < n) : btwX bx cy ax ay (n - i) n = btwX ax ay bx cy i n ∧ btwY bx cy ax ay (n - i) n = btwY ax ay bx cy i n := by
  unfold btwX btwY
  rw [show n - (n - i) = i by omega]
  cases h1 : turnedB ax ay bx cy <;> cases h2 : turnedB bx cy ax ay
  · have : ax = bx ∧ ay = cy := by
      simp [turnedB] at h1 h2
      omega
    obtain ⟨rfl, rfl⟩ := this
    simp [dvr_zero n hn]
  · simp
  · simp
  · exfalso
    simp [turnedB] at h1 h2
    omega
theorem btw_gap {ax ay bx cy i n r : Int} (hn : 0 < n) (hi : 0 ≤ i) (hin : i ≤ n) (h : GapIs ax ay bx cy (btwX ax ay bx cy i n) (btwY ax ay bx cy i n) r) : r = 0 := by
  unfold btwX btwY at h
  cases h1 : turnedB ax ay bx cy
  · rw [h1] at h
    exact gap_round hn hi hin rfl rfl h
  · rw [h1] at h
    exact gap_round hn (show 0 ≤ n - i by omega) (by omega) rfl rfl h.symm
theorem btw_in {ax ay bx cy i n : Int} (hn : 0 < n) (hi : 0 ≤ i) (hin : i ≤ n) (lo hi' : Int) (a0 : lo ≤ ax) (a1 : ax ≤ hi') (a2 : lo ≤ ay) (a3 : ay ≤ hi') (b0 : lo ≤ bx) (b1 : bx ≤ hi') (b2 : lo ≤ cy) (b3 : cy ≤ hi') :
    (lo ≤ btwX ax ay bx cy i n ∧ btwX ax ay bx cy i n ≤ hi') ∧ lo ≤ btwY ax ay bx cy i n ∧ btwY ax ay bx cy i n ≤ hi' := by
  unfold btwX btwY
  have p1 := dvr_part (w := bx - ax) hn hi hin
  have p2 := dvr_part (w := cy - ay) hn hi hin
  have p3 := dvr_part (w := ax - bx) hn (show 0 ≤ n - i by omega) (by omega)
  have p4 := dvr_part (w := ay - cy) hn (show 0 ≤ n - i by omega) (by omega)
  generalize dvr (i * (bx - ax)) n = q1 at *
  generalize dvr (i * (cy - ay)) n = q2 at *
  generalize dvr ((n - i) * (ax - bx)) n = q3 at *
  generalize dvr ((n - i) * (ay - cy)) n = q4 at *
  split <;> omega

/-- The sign of a number. -/
def sgn (x : Int) : Int := if 0 < x then 1 else if x < 0 then -1 else 0
theorem sgn_neg (x : Int) : sgn (-x) = -sgn x := by unfold sgn; split <;> split <;> (try split) <;> omega
end Go.Proofs.Ythccbipjmheoaaa.Pm
