/- Plain facts on the logarithm of chapter 9: digit by digit, and never less for more. No Go in sight. What the functions of chapter 9 answer. No Go in sight. The program's searches: the first number with a property, and the least one. -/
import Derived.Test.YthheacebafleeacGreatDoorMath
import Derived.Test.YthheacebafleeacGreatDoorCalI
import Derived.Deep.RegionHeld3
namespace Go.Proofs.YthheacebafleeacGreatDoor.Pm

/-- The value behind one multiplication, and how many places it has got longer. -/
def upY (x y : Int) : Int := if 1000000000 ≤ y * x / 100000000 then y * x / 100000000 / 10 else y * x / 100000000
def upD (x y d : Int) : Int := if 1000000000 ≤ y * x / 100000000 then d + 1 else d
def pow10 (x : Int) : Nat → Int × Int
  | 0 => (100000000, 0)
  | k + 1 => (upY x (pow10 x k).1, upD x (pow10 x k).1 (pow10 x k).2)
def tenY (x : Int) : Int := (pow10 x 10).1
def tenD (x : Int) : Int := (pow10 x 10).2
/-- A significand. -/
def Sig (x : Int) : Prop := 100000000 ≤ x ∧ x < 1000000000

theorem prod_bd {x y : Int} (hx : Sig x) (hy : Sig y) : 10000000000000000 ≤ y * x ∧ y * x ≤ 999999998000000001 ∧ x ≤ y * x / 100000000 ∧ y * x / 100000000 ≤ 9999999980 ∧ y * x / 100000000 < 10 * x := by
  obtain ⟨x0, x1⟩ := hx
  obtain ⟨y0, y1⟩ := hy
  have a : 100000000 * x ≤ y * x := Int.mul_le_mul_of_nonneg_right y0 (by omega)
  have b : y * x ≤ 999999999 * x := Int.mul_le_mul_of_nonneg_right (by omega) (by omega)
  omega

theorem up_sig {x y : Int} (hx : Sig x) (hy : Sig y) : Sig (upY x y) := by
  obtain ⟨a, b, c, d, e⟩ := prod_bd hx hy
  obtain ⟨x0, x1⟩ := hx
  unfold upY
  split <;> constructor <;> omega

theorem pow_sig {x : Int} (hx : Sig x) (k : Nat) : Sig (pow10 x k).1 := by
  induction k with
  | zero => show Sig 100000000; exact ⟨by decide, by decide⟩
  | succ k ih => exact up_sig hx ih

theorem pow_nn (x : Int) (k : Nat) : 0 ≤ (pow10 x k).2 ∧ (pow10 x k).2 ≤ k := by
  induction k with
  | zero => show (0 : Int) ≤ 0 ∧ (0 : Int) ≤ ((0 : Nat) : Int); omega
  | succ k ih =>
    show 0 ≤ upD x (pow10 x k).1 (pow10 x k).2 ∧ upD x (pow10 x k).1 (pow10 x k).2 ≤ ((k + 1 : Nat) : Int)
    unfold upD
    split <;> omega

theorem pow_one {x : Int} (hx : Sig x) : (pow10 x 1).2 = 0 := by
  show upD x 100000000 0 = 0
  obtain ⟨x0, x1⟩ := hx
  unfold upD
  rw [if_neg (by omega)]

theorem pow_digit {x : Int} (hx : Sig x) (k : Nat) : (pow10 x (k + 1)).2 ≤ k := by
  induction k with
  | zero => rw [pow_one hx]; exact Int.le_refl _
  | succ k ih =>
    show upD x (pow10 x (k + 1)).1 (pow10 x (k + 1)).2 ≤ ((k + 1 : Nat) : Int)
    unfold upD
    split <;> omega

theorem tenD_bd {x : Int} (hx : Sig x) : 0 ≤ tenD x ∧ tenD x ≤ 9 := ⟨(pow_nn x 10).1, pow_digit hx 9⟩
theorem tenY_sig {x : Int} (hx : Sig x) : Sig (tenY x) := pow_sig hx 10

/-- One pair ahead of another, or the same: places first. -/
def Lex (d y e z : Int) : Prop := d < e ∨ (d = e ∧ y ≤ z)

theorem up_mono {x z y u d e : Int} (hx : Sig x) (hz : Sig z) (hy : Sig y) (hu : Sig u) (h : x ≤ z) (l : Lex d y e u) : Lex (upD x y d) (upY x y) (upD z u e) (upY z u) := by
  obtain ⟨a0, a1, a2, a3, a4⟩ := prod_bd hx hy
  obtain ⟨b0, b1, b2, b3, b4⟩ := prod_bd hz hu
  rcases l with l | ⟨rfl, l⟩
  · unfold Lex upD upY
    split <;> split <;> omega
  · have m : y * x ≤ u * z := Int.mul_le_mul l h (by have := hx.1; omega) (by have := hu.1; omega)
    unfold Lex upD upY
    split <;> split <;> omega

theorem pow_mono {x z : Int} (hx : Sig x) (hz : Sig z) (h : x ≤ z) (k : Nat) : Lex (pow10 x k).2 (pow10 x k).1 (pow10 z k).2 (pow10 z k).1 := by
  induction k with
  | zero => exact .inr ⟨rfl, Int.le_refl _⟩
  | succ k ih => exact up_mono hx hz (pow_sig hx k) (pow_sig hz k) h ih

theorem ten_mono {x z : Int} (hx : Sig x) (hz : Sig z) (h : x ≤ z) : Lex (tenD x) (tenY x) (tenD z) (tenY z) := pow_mono hx hz h 10

/-- The next digit of the logarithm keeps the order. -/
theorem log_mono {r s x z : Int} (hx : Sig x) (hz : Sig z) (l : Lex r x s z) : Lex (10 * r + tenD x) (tenY x) (10 * s + tenD z) (tenY z) := by
  obtain ⟨p0, p1⟩ := tenD_bd hx
  obtain ⟨q0, q1⟩ := tenD_bd hz
  rcases l with l | ⟨rfl, l⟩
  · exact .inl (by omega)
  · rcases ten_mono hx hz l with m | ⟨m, m'⟩
    · exact .inl (by omega)
    · exact .inr ⟨by omega, m'⟩

/-! ### A number's significand and place -/
def plcF : Nat → Int → Nat
  | 0, _ => 0
  | f + 1, n => if n < 10 then 0 else plcF f (n / 10) + 1
def plcOf (n : Int) : Nat := plcF 20 n
def sigX (n : Int) : Int := if plcOf n ≤ 8 then n * (10 : Int) ^ (8 - plcOf n) else n / (10 : Int) ^ (plcOf n - 8)

theorem p10 (k : Nat) : (1 : Int) ≤ (10 : Int) ^ k := by
  induction k with
  | zero => decide
  | succ k ih => rw [Int.pow_succ]; omega

theorem plcF_is (f : Nat) (n : Int) (h1 : 1 ≤ n) (h : n < (10 : Int) ^ (f + 1)) : (10 : Int) ^ plcF f n ≤ n ∧ n < (10 : Int) ^ (plcF f n + 1) := by
  induction f generalizing n with
  | zero => exact ⟨h1, h⟩
  | succ f ih =>
    unfold plcF
    by_cases c : n < 10
    · rw [if_pos c]; exact ⟨h1, c⟩
    · rw [if_neg c]
      rw [Int.pow_succ] at h
      obtain ⟨a, b⟩ := ih (n / 10) (by omega) (by omega)
      rw [Int.pow_succ] at b
      rw [Int.pow_succ, Int.pow_succ]
      omega

/-- The pair of a number: its significand and the place of its first digit. -/
def Part (n x r : Int) : Prop := (∃ k : Nat, r + k = 8 ∧ x = n * (10 : Int) ^ k) ∨ (∃ k : Nat, r = 8 + k ∧ x = n / (10 : Int) ^ k)

theorem part_nat {n x r : Int} (hn : 1 ≤ n) (hx : Sig x) (h : Part n x r) : ∃ q : Nat, r = q ∧ (10 : Int) ^ q ≤ n ∧ n < (10 : Int) ^ (q + 1) := by
  obtain ⟨x0, x1⟩ := hx
  rcases h with ⟨k, hk, rfl⟩ | ⟨k, rfl, rfl⟩
  · have hk8 : k ≤ 8 := by
      by_cases c : k ≤ 8
      · exact c
      · exfalso
        obtain ⟨j, rfl⟩ : ∃ j, k = j + 9 := ⟨k - 9, by omega⟩
        rw [Int.pow_add] at x1
        have a : (1 : Int) * (1 * 10 ^ 9) ≤ n * (10 ^ j * 10 ^ 9) := Int.mul_le_mul hn (Int.mul_le_mul_of_nonneg_right (p10 j) (by decide)) (by decide) (by omega)
        rw [show ((1 : Int) * (1 * 10 ^ 9)) = 1000000000 by decide] at a
        omega
    refine ⟨8 - k, by omega, ?_, ?_⟩
    · have e : (10 : Int) ^ (8 - k) * 10 ^ k = 100000000 := by rw [← Int.pow_add, show 8 - k + k = 8 by omega]; decide
      rw [← e] at x0
      exact Int.le_of_mul_le_mul_right x0 (by have := p10 k; omega)
    · have e : (10 : Int) ^ (8 - k + 1) * 10 ^ k = 1000000000 := by rw [← Int.pow_add, show 8 - k + 1 + k = 9 by omega]; decide
      rw [← e] at x1
      exact Int.lt_of_mul_lt_mul_right x1 (by have := p10 k; omega)
  · have hp : (0 : Int) < 10 ^ k := by have := p10 k; omega
    refine ⟨8 + k, by omega, ?_, ?_⟩
    · rw [Int.pow_add, show (10 : Int) ^ 8 = 100000000 by decide]
      exact (Int.le_ediv_iff_mul_le hp).1 x0
    · rw [show 8 + k + 1 = 9 + k by omega, Int.pow_add, show (10 : Int) ^ 9 = 1000000000 by decide]
      exact (Int.ediv_lt_iff_lt_mul hp).1 x1

theorem p10_mono {a b : Nat} (h : a ≤ b) : (10 : Int) ^ a ≤ 10 ^ b := by
  obtain ⟨c, rfl⟩ : ∃ c, b = a + c := ⟨b - a, by omega⟩
  rw [Int.pow_add]
  have := Int.mul_le_mul_of_nonneg_left (p10 c) (show (0 : Int) ≤ 10 ^ a by have := p10 a; omega)
  omega

theorem part_lex {n m x z r s : Int} (hn : 1 ≤ n) (h : n ≤ m) (hx : Sig x) (hz : Sig z) (p : Part n x r) (q : Part m z s) : Lex r x s z := by
  obtain ⟨a, ha, a0, a1⟩ := part_nat hn hx p
  obtain ⟨b, hb, b0, b1⟩ := part_nat (by omega) hz q
  by_cases c : b < a
  · have := p10_mono (show b + 1 ≤ a by omega)
    omega
  · by_cases d : a < b
    · exact .inl (by omega)
    · refine .inr ⟨by omega, ?_⟩
      obtain rfl : a = b := by omega
      rcases p with ⟨k, hk, rfl⟩ | ⟨k, hk, rfl⟩ <;> rcases q with ⟨j, hj, rfl⟩ | ⟨j, hj, rfl⟩
      · obtain rfl : k = j := by omega
        exact Int.mul_le_mul_of_nonneg_right h (by have := p10 k; omega)
      · obtain rfl : k = 0 := by omega
        obtain rfl : j = 0 := by omega
        simpa using h
      · obtain rfl : k = 0 := by omega
        obtain rfl : j = 0 := by omega
        simpa using h
      · obtain rfl : k = j := by omega
        exact Int.ediv_le_ediv (by have := p10 k; omega) h

theorem sigX_part (n : Int) (h1 : 1 ≤ n) (h2 : n ≤ 1000000000000000000) : Sig (sigX n) ∧ Part n (sigX n) (plcOf n) := by
  obtain ⟨a, b⟩ := plcF_is 20 n h1 (by rw [show (10 : Int) ^ (20 + 1) = 1000000000000000000000 by decide]; omega)
  have e : plcF 20 n = plcOf n := rfl
  rw [e] at a b
  generalize hp : plcOf n = p at *
  unfold sigX
  rw [hp]
  by_cases c : p ≤ 8
  · rw [if_pos c]
    have e8 : (10 : Int) ^ p * 10 ^ (8 - p) = 100000000 := by rw [← Int.pow_add, show p + (8 - p) = 8 by omega]; decide
    have e9 : (10 : Int) ^ (p + 1) * 10 ^ (8 - p) = 1000000000 := by rw [← Int.pow_add, show p + 1 + (8 - p) = 9 by omega]; decide
    have hq : (0 : Int) < 10 ^ (8 - p) := by have := p10 (8 - p); omega
    exact ⟨⟨by rw [← e8]; exact Int.mul_le_mul_of_nonneg_right a (by omega), by rw [← e9]; exact Int.mul_lt_mul_of_pos_right b hq⟩, .inl ⟨8 - p, by omega, rfl⟩⟩
  · rw [if_neg c]
    have e8 : (10 : Int) ^ p = 100000000 * 10 ^ (p - 8) := by rw [show (100000000 : Int) = 10 ^ 8 by decide, ← Int.pow_add, show 8 + (p - 8) = p by omega]
    have e9 : (10 : Int) ^ (p + 1) = 1000000000 * 10 ^ (p - 8) := by rw [show (1000000000 : Int) = 10 ^ 9 by decide, ← Int.pow_add, show 9 + (p - 8) = p + 1 by omega]
    have hq : (0 : Int) < 10 ^ (p - 8) := by have := p10 (p - 8); omega
    rw [e8] at a
    rw [e9] at b
    exact ⟨⟨(Int.le_ediv_iff_mul_le hq).2 a, (Int.ediv_lt_iff_lt_mul hq).2 b⟩, .inr ⟨p - 8, by omega, rfl⟩⟩

theorem part_is {n x r : Int} (h1 : 1 ≤ n) (h2 : n ≤ 1000000000000000000) (hx : Sig x) (p : Part n x r) : x = sigX n ∧ r = plcOf n := by
  obtain ⟨s, q⟩ := sigX_part n h1 h2
  have a := part_lex h1 (Int.le_refl _) hx s p q
  have b := part_lex h1 (Int.le_refl _) s hx q p
  unfold Lex at a b
  omega

/-- The logarithm in thousandths. -/
def logV (n : Int) : Int := 10 * (10 * (10 * (plcOf n : Int) + tenD (sigX n)) + tenD (tenY (sigX n))) + tenD (tenY (tenY (sigX n)))

theorem logV_mono {n m : Int} (h1 : 1 ≤ n) (h : n ≤ m) (h2 : m ≤ 1000000000000000000) : logV n ≤ logV m := by
  obtain ⟨s, p⟩ := sigX_part n h1 (by omega)
  obtain ⟨t, q⟩ := sigX_part m (by omega) h2
  have l := log_mono (tenY_sig (tenY_sig s)) (tenY_sig (tenY_sig t)) (log_mono (tenY_sig s) (tenY_sig t) (log_mono s t (part_lex h1 h s t p q)))
  rcases l with l | ⟨l, _⟩
  · exact Int.le_of_lt l
  · exact Int.le_of_eq l

theorem plc_bd {n : Int} (h1 : 1 ≤ n) (h2 : n ≤ 1000000000000) : plcOf n ≤ 12 := by
  obtain ⟨a, _⟩ := plcF_is 20 n h1 (by rw [show (10 : Int) ^ (20 + 1) = 1000000000000000000000 by decide]; omega)
  have e : plcF 20 n = plcOf n := rfl
  rw [e] at a
  by_cases c : plcOf n ≤ 12
  · exact c
  · have := p10_mono (show 13 ≤ plcOf n by omega)
    rw [show (10 : Int) ^ 13 = 10000000000000 by decide] at this
    omega

theorem logV_bd {n : Int} (h1 : 1 ≤ n) (h2 : n ≤ 1000000000000) : 0 ≤ logV n ∧ logV n ≤ 12999 := by
  obtain ⟨s, _⟩ := sigX_part n h1 (by omega)
  have a := tenD_bd s
  have b := tenD_bd (tenY_sig s)
  have c := tenD_bd (tenY_sig (tenY_sig s))
  have := plc_bd h1 h2
  unfold logV
  omega

theorem logV_ten {n : Int} (h1 : 1 ≤ n) (h2 : n ≤ 99999999) : logV (10 * n) = logV n + 1000 := by
  obtain ⟨s, p⟩ := sigX_part n h1 (by omega)
  have hp : ∃ q : Nat, plcOf n = q ∧ q < 8 := by
    refine ⟨_, rfl, ?_⟩
    obtain ⟨q, hq, a, _⟩ := part_nat h1 s p
    obtain rfl : plcOf n = q := by omega
    by_cases c : plcOf n < 8
    · exact c
    · have := p10_mono (show 8 ≤ plcOf n by omega)
      rw [show (10 : Int) ^ 8 = 100000000 by decide] at this
      omega
  obtain ⟨q, hq, hq8⟩ := hp
  have pt : Part (10 * n) (sigX n) ((plcOf n : Int) + 1) := by
    rcases p with ⟨k, hk, e⟩ | ⟨k, hk, e⟩
    · obtain ⟨j, rfl⟩ : ∃ j, k = j + 1 := ⟨k - 1, by omega⟩
      refine .inl ⟨j, by omega, ?_⟩
      rw [e, Int.pow_succ, Int.mul_comm 10 n, Int.mul_assoc, Int.mul_comm ((10 : Int) ^ j) 10]
    · omega
  obtain ⟨e1, e2⟩ := part_is (by omega) (by omega) s pt
  unfold logV
  rw [← e1]
  omega
/-- The significand and the logarithm behind some digits. -/
def logG (n : Int) : Nat → Int × Int
  | 0 => (sigX n, (plcOf n : Int))
  | k + 1 => (tenY (logG n k).1, 10 * (logG n k).2 + tenD (logG n k).1)
theorem logG_sig {n : Int} (h1 : 1 ≤ n) (h2 : n ≤ 1000000000000) (k : Nat) : Sig (logG n k).1 := by
  induction k with
  | zero => exact (sigX_part n h1 (by omega)).1
  | succ k ih => exact tenY_sig ih
theorem logG_bd {n : Int} (h1 : 1 ≤ n) (h2 : n ≤ 1000000000000) {k : Nat} (hk : k ≤ 3) : 0 ≤ (logG n k).2 ∧ (logG n k).2 ≤ 12999 := by
  have e0 := plc_bd h1 h2
  have d0 := tenD_bd (logG_sig h1 h2 0)
  have d1 := tenD_bd (logG_sig h1 h2 1)
  have d2 := tenD_bd (logG_sig h1 h2 2)
  have q0 : (logG n 0).2 = (plcOf n : Int) := rfl
  have q1 : (logG n 1).2 = 10 * (logG n 0).2 + tenD (logG n 0).1 := rfl
  have q2 : (logG n 2).2 = 10 * (logG n 1).2 + tenD (logG n 1).1 := rfl
  have q3 : (logG n 3).2 = 10 * (logG n 2).2 + tenD (logG n 2).1 := rfl
  have : k = 0 ∨ k = 1 ∨ k = 2 ∨ k = 3 := by omega
  rcases this with rfl | rfl | rfl | rfl <;> omega
theorem logG_three (n : Int) : (logG n 3).2 = logV n := by simp only [logG, logV]

/-! ### Is an intensity enough? -/
def seenB (I V D : Int) : Bool := decide (2 * logV D ≤ logV I + 6699 - 1301 * D / V)
theorem quot_bd {D V : Int} (d0 : 1 ≤ D) (d1 : D ≤ 100001) (v0 : 1 ≤ V) : 0 ≤ 1301 * D / V ∧ 1301 * D / V ≤ 130101301 := by
  generalize hD : 1301 * D = x
  have x0 : 0 ≤ x := by omega
  have x1 : x ≤ 130101301 := by omega
  clear hD d0 d1
  have a : x / V ≤ x := Int.ediv_le_self _ x0
  exact ⟨Int.ediv_nonneg x0 (by omega), Int.le_trans a x1⟩
theorem quot_up {D E V : Int} (h : D ≤ E) (v0 : 1 ≤ V) : 1301 * D / V ≤ 1301 * E / V := Int.ediv_le_ediv (by omega) (by omega)
theorem quot_down {D V W : Int} (d0 : 0 ≤ D) (v0 : 1 ≤ V) (h : V ≤ W) : 1301 * D / W ≤ 1301 * D / V := by
  have a : 1301 * D / W * V ≤ 1301 * D / W * W := Int.mul_le_mul_of_nonneg_left h (Int.ediv_nonneg (by omega) (by omega))
  have b : 1301 * D / W * W ≤ 1301 * D := Int.ediv_mul_le _ (by omega)
  exact (Int.le_ediv_iff_mul_le (by omega)).2 (by omega)

theorem seen_I {I J V D : Int} (i0 : 1 ≤ I) (h : I ≤ J) (j1 : J ≤ 1000000000000) (s : seenB I V D = true) : seenB J V D = true := by
  have := logV_mono i0 h (by omega)
  unfold seenB at *
  simp only [decide_eq_true_eq] at *
  omega
theorem seen_D {I V D E : Int} (d0 : 1 ≤ D) (h : D ≤ E) (e1 : E ≤ 1000000000000) (v0 : 1 ≤ V) (s : seenB I V E = true) : seenB I V D = true := by
  have a := logV_mono d0 h (by omega)
  have b := quot_up h v0
  unfold seenB at *
  simp only [decide_eq_true_eq] at *
  omega
theorem seen_V {I V W D : Int} (d0 : 1 ≤ D) (v0 : 1 ≤ V) (h : V ≤ W) (s : seenB I V D = true) : seenB I W D = true := by
  have b := quot_down (D := D) (by omega) v0 h
  unfold seenB at *
  simp only [decide_eq_true_eq] at *
  omega

/-- The greatest number up to M with a property that all lesser ones from 1 on have too; 0 if none has it. -/
def Most (p : Int → Bool) (M r : Int) : Prop := 0 ≤ r ∧ r ≤ M ∧ (∀ t, 1 ≤ t → t ≤ r → p t = true) ∧ (∀ t, r < t → t ≤ M → p t = false)
theorem Most.one {p : Int → Bool} {M r s : Int} (h : Most p M r) (k : Most p M s) : r = s := by
  obtain ⟨a, b, c, d⟩ := h
  obtain ⟨e, f, g, i⟩ := k
  rcases Int.lt_trichotomy r s with q | q | q
  · have x := g s (by omega) (by omega)
    rw [d s q f] at x
    cases x
  · exact q
  · have x := c r (by omega) (by omega)
    rw [i r q b] at x
    cases x

/-- The least number from L to M with a property that all greater ones have too; M + 1 if none has it. -/
def Least (p : Int → Bool) (L M r : Int) : Prop := L ≤ r ∧ r ≤ M + 1 ∧ (∀ t, L ≤ t → t < r → p t = false) ∧ (∀ t, r ≤ t → t ≤ M → p t = true)
theorem Least.one {p : Int → Bool} {L M r s : Int} (h : Least p L M r) (k : Least p L M s) : r = s := by
  obtain ⟨a, b, c, d⟩ := h
  obtain ⟨e, f, g, i⟩ := k
  rcases Int.lt_trichotomy r s with q | q | q
  · have x := d r (by omega) (by omega)
    rw [g r a q] at x
    cases x
  · exact q
  · have x := i s (by omega) (by omega)
    rw [c s e q] at x
    cases x

theorem most_ex (p : Int → Bool) (M : Nat) (hm : ∀ a b, 1 ≤ a → a ≤ b → b ≤ (M : Int) → p b = true → p a = true) : ∃ r, Most p M r := by
  induction M with
  | zero => exact ⟨0, by omega, by omega, fun t h1 h2 => by omega, fun t h1 h2 => by omega⟩
  | succ M ih =>
    by_cases c : p ((M + 1 : Nat) : Int) = true
    · exact ⟨((M + 1 : Nat) : Int), by omega, by omega, fun t h1 h2 => hm t _ h1 h2 (by omega) c, fun t h1 h2 => by omega⟩
    · obtain ⟨r, r0, r1, r2, r3⟩ := ih (fun a b h1 h2 h3 => hm a b h1 h2 (by omega))
      refine ⟨r, r0, by omega, r2, fun t h1 h2 => ?_⟩
      by_cases e : t = ((M + 1 : Nat) : Int)
      · rw [e]; simpa using c
      · exact r3 t h1 (by omega)
theorem least_ex (p : Int → Bool) (L : Int) (n : Nat) (hm : ∀ a b, L ≤ a → a ≤ b → b < L + n → p a = true → p b = true) : ∃ r, Least p L (L + n - 1) r := by
  induction n with
  | zero => exact ⟨L, by omega, by omega, fun t h1 h2 => by omega, fun t h1 h2 => by omega⟩
  | succ n ih =>
    by_cases c : p (L + n) = true
    · obtain ⟨r, r0, r1, r2, r3⟩ := ih (fun a b h1 h2 h3 => hm a b h1 h2 (by omega))
      refine ⟨r, r0, by omega, r2, fun t h1 h2 => ?_⟩
      by_cases e : t = L + n
      · rw [e]; exact c
      · exact r3 t h1 (by omega)
    · refine ⟨L + n + 1, by omega, by omega, fun t h1 h2 => ?_, fun t h1 h2 => by omega⟩
      cases h : p t with
      | false => rfl
      | true => exact absurd (hm t (L + n) h1 (by omega) (by omega) h) c

/-- What a search for the least number answers: the number and OK, or 0 and ErrNotFound. -/
def LeastIs (p : Int → Bool) (L M a c : Int) : Prop := ∃ r, Least p L M r ∧ ((r ≤ M ∧ a = r ∧ c = 0) ∨ (M < r ∧ a = 0 ∧ c = 3))
theorem leastIs_ex {p : Int → Bool} {L M r : Int} (h : Least p L M r) : ∃ a c, LeastIs p L M a c := by
  by_cases k : r ≤ M
  · exact ⟨r, 0, r, h, .inl ⟨k, rfl, rfl⟩⟩
  · exact ⟨0, 3, r, h, .inr ⟨by omega, rfl, rfl⟩⟩

/-! ### The horizon -/
def rootN : Nat → Nat
  | 0 => 0
  | n + 1 => if (rootN n + 1) * (rootN n + 1) ≤ n + 1 then rootN n + 1 else rootN n
theorem rootN_is (n : Nat) : rootN n * rootN n ≤ n ∧ n < (rootN n + 1) * (rootN n + 1) := by
  induction n with
  | zero => exact ⟨Nat.le_refl _, by decide⟩
  | succ n ih =>
    unfold rootN
    generalize rootN n = r at *
    by_cases c : (r + 1) * (r + 1) ≤ n + 1
    · rw [if_pos c]
      refine ⟨c, ?_⟩
      have e : (r + 1 + 1) * (r + 1 + 1) = (r + 1) * (r + 1) + 2 * (r + 1) + 1 := by
        rw [Nat.add_mul, Nat.mul_add, Nat.mul_add]; omega
      omega
    · rw [if_neg c]
      omega
def horV (h : Int) : Int := (rootN (1483790 * h).toNat : Int)
theorem hor_sq {h : Int} (h0 : 0 ≤ h) : 0 ≤ horV h ∧ horV h * horV h ≤ 1483790 * h ∧ 1483790 * h < (horV h + 1) * (horV h + 1) := by
  obtain ⟨a, b⟩ := rootN_is (1483790 * h).toNat
  unfold horV
  generalize rootN (1483790 * h).toNat = r at *
  have e1 : ((r * r : Nat) : Int) = (r : Int) * r := by simp
  have e2 : (((r + 1) * (r + 1) : Nat) : Int) = ((r : Int) + 1) * ((r : Int) + 1) := by simp
  rw [← e1, ← e2]
  omega
theorem hor_bd {h : Int} (h0 : 0 ≤ h) (h1 : h ≤ 3001) : 0 ≤ horV h ∧ horV h ≤ 66731 := by
  obtain ⟨a, b, _⟩ := hor_sq h0
  refine ⟨a, ?_⟩
  by_cases c : horV h ≤ 66731
  · exact c
  · have : 66732 * 66732 ≤ horV h * horV h := Int.mul_le_mul (by omega) (by omega) (by omega) (by omega)
    omega
theorem hor_mono {h k : Int} (h0 : 0 ≤ h) (hk : h ≤ k) : horV h ≤ horV k := by
  obtain ⟨a, b, _⟩ := hor_sq h0
  obtain ⟨c, _, d⟩ := hor_sq (show 0 ≤ k by omega)
  by_cases e : horV h ≤ horV k
  · exact e
  · have : (horV k + 1) * (horV k + 1) ≤ horV h * horV h := Int.mul_le_mul (by omega) (by omega) (by omega) (by omega)
    omega
/-- Does a height of an eye see a light? -/
def eyeB (h D e : Int) : Bool := decide (D ≤ horV h + horV e)
theorem eye_mono {h D a b : Int} (a0 : 0 ≤ a) (hab : a ≤ b) (s : eyeB h D a = true) : eyeB h D b = true := by
  have := hor_mono a0 hab
  unfold eyeB at *
  simp only [decide_eq_true_eq] at *
  omega
end Go.Proofs.YthheacebafleeacGreatDoor.Pm
namespace Go.Proofs.YthheacebafleeacGreatDoor.Pm

theorem inB_yes {lo hi z : Int} (h : inB lo hi [z] = true) : lo ≤ z ∧ z ≤ hi := by simpa [inB] using h
theorem inB_in {lo hi z : Int} (h : lo ≤ z ∧ z ≤ hi) : inB lo hi [z] = true := by simpa [inB] using h
theorem inB_out {lo hi z : Int} (h : ¬(lo ≤ z ∧ z ≤ hi)) : inB lo hi [z] = false := by
  cases e : inB lo hi [z]
  · rfl
  · exact absurd (inB_yes e) h

theorem horV_root {h : Int} (h0 : 0 ≤ h) (h1 : h ≤ 3001) : Root (1483790 * h) (horV h) := by
  obtain ⟨a, b⟩ := hor_bd h0 h1
  obtain ⟨_, c, d⟩ := hor_sq h0
  exact ⟨a, by omega, fun e => by omega, fun _ => ⟨c, d⟩⟩

/-- A function's two answers. -/
def LogIs (n a c : Int) : Prop := (inB 1 1000000000000 [n] = false ∧ a = 0 ∧ c = 2) ∨ (inB 1 1000000000000 [n] = true ∧ a = logV n ∧ c = 0)
def HorIs (h a c : Int) : Prop := (inB 0 3000 [h] = false ∧ a = 0 ∧ c = 2) ∨ (inB 0 3000 [h] = true ∧ a = horV h ∧ c = 0)
def GeoIs (h e a c : Int) : Prop := ((inB 0 3000 [h] && inB 0 3000 [e]) = false ∧ a = 0 ∧ c = 2) ∨ ((inB 0 3000 [h] && inB 0 3000 [e]) = true ∧ a = horV h + horV e ∧ c = 0)
def EyeIs (h D a c : Int) : Prop := ((inB 0 3000 [h] && inB 1 100000 [D]) = false ∧ a = 0 ∧ c = 2) ∨ ((inB 0 3000 [h] && inB 1 100000 [D]) = true ∧ LeastIs (eyeB h D) 0 3000 a c)
def LumIs (I V a c : Int) : Prop := ((inB 1 100000000 [I] && inB 1 100000 [V]) = false ∧ a = 0 ∧ c = 2) ∨ ((inB 1 100000000 [I] && inB 1 100000 [V]) = true ∧ Most (seenB I V) 100000 a ∧ c = 0)
def IntIs (D V a c : Int) : Prop := ((inB 1 100000 [D] && inB 1 100000 [V]) = false ∧ a = 0 ∧ c = 2) ∨ ((inB 1 100000 [D] && inB 1 100000 [V]) = true ∧ LeastIs (fun I => seenB I V D) 1 100000000 a c)
def VisIs (I D a c : Int) : Prop := ((inB 1 100000000 [I] && inB 1 100000 [D]) = false ∧ a = 0 ∧ c = 2) ∨ ((inB 1 100000000 [I] && inB 1 100000 [D]) = true ∧ LeastIs (fun V => seenB I V D) 1 100000 a c)
def RngIs (I h e V a c : Int) : Prop := ∃ x y k l, LumIs I V x k ∧ GeoIs h e y l ∧ ((k = 0 ∧ l = 0 ∧ a = (if y < x then y else x) ∧ c = 0) ∨ ((k ≠ 0 ∨ l ≠ 0) ∧ a = 0 ∧ c = 2))

theorem and_yes {a b : Bool} (h : (a && b) = true) : a = true ∧ b = true := by simpa using h

theorem logIs_ex (n : Int) : ∃ a c, LogIs n a c := by
  cases h : inB 1 1000000000000 [n]
  · exact ⟨0, 2, .inl ⟨h, rfl, rfl⟩⟩
  · exact ⟨_, _, .inr ⟨h, rfl, rfl⟩⟩
theorem horIs_ex (n : Int) : ∃ a c, HorIs n a c := by
  cases h : inB 0 3000 [n]
  · exact ⟨0, 2, .inl ⟨h, rfl, rfl⟩⟩
  · exact ⟨_, _, .inr ⟨h, rfl, rfl⟩⟩
theorem geoIs_ex (h e : Int) : ∃ a c, GeoIs h e a c := by
  cases k : (inB 0 3000 [h] && inB 0 3000 [e])
  · exact ⟨0, 2, .inl ⟨k, rfl, rfl⟩⟩
  · exact ⟨_, _, .inr ⟨k, rfl, rfl⟩⟩
theorem eyeIs_ex (h D : Int) : ∃ a c, EyeIs h D a c := by
  cases k : (inB 0 3000 [h] && inB 1 100000 [D])
  · exact ⟨0, 2, .inl ⟨k, rfl, rfl⟩⟩
  · obtain ⟨r, hr⟩ := least_ex (eyeB h D) 0 3001 (fun a b h1 h2 _ h4 => eye_mono h1 h2 h4)
    obtain ⟨a, c, hc⟩ := leastIs_ex hr
    exact ⟨a, c, .inr ⟨k, hc⟩⟩
theorem lum_mono {I V : Int} (v0 : 1 ≤ V) (a b : Int) (h1 : 1 ≤ a) (h2 : a ≤ b) (h3 : b ≤ 100000) (h4 : seenB I V b = true) : seenB I V a = true := seen_D h1 h2 (by omega) v0 h4
theorem lumIs_ex (I V : Int) : ∃ a c, LumIs I V a c := by
  cases k : (inB 1 100000000 [I] && inB 1 100000 [V])
  · exact ⟨0, 2, .inl ⟨k, rfl, rfl⟩⟩
  · obtain ⟨r, hr⟩ := most_ex (seenB I V) 100000 (fun a b h1 h2 h3 h4 => lum_mono (inB_yes (and_yes k).2).1 a b h1 h2 h3 h4)
    exact ⟨r, 0, .inr ⟨k, hr, rfl⟩⟩
theorem intIs_ex (D V : Int) : ∃ a c, IntIs D V a c := by
  cases k : (inB 1 100000 [D] && inB 1 100000 [V])
  · exact ⟨0, 2, .inl ⟨k, rfl, rfl⟩⟩
  · obtain ⟨r, hr⟩ := least_ex (fun I => seenB I V D) 1 100000000 (fun a b h1 h2 h3 h4 => seen_I h1 h2 (by omega) h4)
    obtain ⟨a, c, hc⟩ := leastIs_ex hr
    exact ⟨a, c, .inr ⟨k, hc⟩⟩
theorem visIs_ex (I D : Int) : ∃ a c, VisIs I D a c := by
  cases k : (inB 1 100000000 [I] && inB 1 100000 [D])
  · exact ⟨0, 2, .inl ⟨k, rfl, rfl⟩⟩
  · obtain ⟨r, hr⟩ := least_ex (fun V => seenB I V D) 1 100000 (fun a b h1 h2 h3 h4 => seen_V (inB_yes (and_yes k).2).1 h1 h2 h4)
    obtain ⟨a, c, hc⟩ := leastIs_ex hr
    exact ⟨a, c, .inr ⟨k, hc⟩⟩
theorem rngIs_ex (I h e V : Int) : ∃ a c, RngIs I h e V a c := by
  obtain ⟨x, k, hk⟩ := lumIs_ex I V
  obtain ⟨y, l, hl⟩ := geoIs_ex h e
  by_cases c : k = 0 ∧ l = 0
  · exact ⟨_, 0, x, y, k, l, hk, hl, .inl ⟨c.1, c.2, rfl, rfl⟩⟩
  · exact ⟨0, 2, x, y, k, l, hk, hl, .inr ⟨by omega, rfl, rfl⟩⟩
end Go.Proofs.YthheacebafleeacGreatDoor.Pm
namespace Go.Proofs.YthheacebafleeacGreatDoor
open Go.ChangeShapes Go.WideShapes Go.ChangeAt Go.RowKit Pm

/-- The first place of some with a property is returned. -/
def FirstAt (p : Int → Bool) (a : Int) (n : Nat) (w : World) (e : Ending) (w' : World) : Prop :=
  ∃ r : Nat, e = .returned (.int .i64 (a + r)) ∧ r ≤ n ∧ (∀ t : Nat, t < r → p (a + t) = false) ∧ (∀ t : Nat, r ≤ t → t < n → p (a + t) = true) ∧ Below w.heap.size w w'

theorem fclos_any (g : Nat) (caps : Array Value) (p : Int → Bool) (a : Int) (bh bf i : Nat) (W : World) (eg : ∀ args w, (callFunc g args).run Tryz.prog w = .ok (.enter g args) w) (a0 : 0 ≤ a) (a1 : a ≤ 1000000) (i1 : i ≤ 200000000)
    (hf : Calls Tryz.prog g (#[.int .i64 (a + i)] ++ caps) W fun e w' => e = .returned (.bool (p (a + i))) ∧ Below W.heap.size W w')
    (ch : W.cell? ⟨bh, 0, none⟩ = some (.func (.func g) #[] caps)) (cf : W.cell? ⟨bf, 0, none⟩ = some (.int .i64 a)) :
    Calls Tryz.prog 71 (#[.int .i64 i] ++ #[.pointer (some ⟨bh, 0, none⟩), .pointer (some ⟨bf, 0, none⟩)]) W fun e w' => e = .returned (.bool (p (a + i))) ∧ Below W.heap.size W w' := by
  have HC := Lib.hid hf
  generalize p (a + i) = b at HC ⊢
  clear hf
  go_enter Tryz.func71, Tryz.ntmps71
  go_wp2_with (go_at_fn g; refine HC.out.mono ?_; rintro e w1 ⟨rfl, hb⟩)
  go_ret
  exact ⟨rfl, hb⟩

set_option maxHeartbeats 1000000 in
theorem firstnum_any (g : Nat) (caps : Array Value) (p : Int → Bool) (a : Int) (n : Nat) (w : World) (eg : ∀ args w, (callFunc g args).run Tryz.prog w = .ok (.enter g args) w) (a0 : 0 ≤ a) (a1 : a ≤ 1000000) (n1 : n ≤ 200000000)
    (hf : ∀ (W : World) (i : Nat), i < n → Below w.heap.size w W → Calls Tryz.prog g (#[.int .i64 (a + i)] ++ caps) W fun e w' => e = .returned (.bool (p (a + i))) ∧ Below W.heap.size W w')
    (hm : ∀ x y : Nat, x ≤ y → y < n → p (a + x) = true → p (a + y) = true) :
    Calls Tryz.prog 56 #[.int .i64 a, .int .i64 (a + n), .func (.func g) #[] caps] w (FirstAt p a n w) := by
  have eh : ∀ args w, (callFunc 71 args).run Tryz.prog w = .ok (.enter 71 args) w := enters_of Tryz.func71 (by kernel_rfl) rfl
  have HSR := Lib.hid (show ∀ W, (W.cell? ⟨w.heap.size, 0, none⟩ = some (.int .i64 a) ∧ W.cell? ⟨w.heap.size + 1, 0, none⟩ = some (.func (.func g) #[] caps) ∧ Below w.heap.size w W) →
      Calls Tryz.prog 70 #[.int .i64 n, .func (.func 71) #[] #[.pointer (some ⟨w.heap.size + 1, 0, none⟩), .pointer (some ⟨w.heap.size, 0, none⟩)]] W (Found (fun i => p (a + (i : Int))) n W) from
    fun W ⟨q0, q1, q2⟩ => search_any 71 #[.pointer (some ⟨w.heap.size + 1, 0, none⟩), .pointer (some ⟨w.heap.size, 0, none⟩)] n (fun i => p (a + (i : Int))) W eh (by omega)
      (fun W2 i hi hb => fclos_any g caps p a (w.heap.size + 1) w.heap.size i W2 eg a0 a1 (by omega) (hf W2 i hi (Below.next q2 hb)) (cell_below q1 hb) (cell_below q0 hb)) hm)
  clear hm eg hf eh
  have e0 : IntKind.i64.wrap (a + n - a) = n := by rw [show a + (n : Int) - a = n by omega]; exact IntWalk.i64_in _ (by omega)
  go_enter Tryz.func56, Tryz.ntmps56
  go_wp2_with (fail)
  go_region_held3 (fun w' => w'.cell? ⟨w.heap.size, 0, none⟩ = some (.int .i64 a) ∧ w'.cell? ⟨w.heap.size + 1, 0, none⟩ = some (.func (.func g) #[] caps) ∧ Below w.heap.size w w')
    (first | assumption | exact keep2 (by assumption) (by assumption) | exact drew2 (by assumption) | exact ⟨by go_cell, by go_cell, by go_grown⟩)
    (first | (go_at_call 70; refine (HSR.out _ (by assumption)).mono ?_; rintro e w1 ⟨r, rfl, hr, h1, h2, hb⟩; have hrz : (r : Int) ≤ n := (by omega); have eR : IntKind.i64.wrap (a + (r : Int)) = a + r := IntWalk.i64_in _ (by omega); have H12 := Lib.hid (And.intro h1 h2); clear h1 h2))
  go_wp2
  go_ret
  exact ⟨r, rfl, hr, H12.out.1, H12.out.2, keepB2 (by assumption)⟩

theorem firstat_least {p : Int → Bool} {a : Int} {n r : Nat} (hr : r ≤ n) (h1 : ∀ t : Nat, t < r → p (a + t) = false) (h2 : ∀ t : Nat, r ≤ t → t < n → p (a + t) = true) : Least p a (a + n - 1) (a + r) := by
  refine ⟨by omega, by omega, fun t q1 q2 => ?_, fun t q1 q2 => ?_⟩
  · have := h1 (t - a).toNat (by omega)
    rw [show a + ((t - a).toNat : Int) = t by omega] at this
    exact this
  · have := h2 (t - a).toNat (by omega) (by omega)
    rw [show a + ((t - a).toNat : Int) = t by omega] at this
    exact this

set_option maxHeartbeats 1000000 in
theorem leastthat_any (g : Nat) (caps : Array Value) (p : Int → Bool) (L : Int) (n : Nat) (a c : Int) (w : World) (eg : ∀ args w, (callFunc g args).run Tryz.prog w = .ok (.enter g args) w) (a0 : 0 ≤ L) (a1 : L ≤ 1000000) (n1 : n ≤ 200000000)
    (hf : ∀ (W : World) (i : Nat), i < n → Below w.heap.size w W → Calls Tryz.prog g (#[.int .i64 (L + i)] ++ caps) W fun e w' => e = .returned (.bool (p (L + i))) ∧ Below W.heap.size W w')
    (hm : ∀ x y : Nat, x ≤ y → y < n → p (L + x) = true → p (L + y) = true) (hr : LeastIs p L (L + n - 1) a c) :
    Calls Tryz.prog 38 #[.int .i64 L, .int .i64 (L + n - 1), .func (.func g) #[] caps] w fun e w' => e = .returned (.tuple #[.int .i64 a, .int .i64 c]) ∧ Below w.heap.size w w' := by
  obtain ⟨r, hl, hr⟩ := hr
  have HF := Lib.hid (show Calls Tryz.prog 56 #[.int .i64 L, .int .i64 (L + n - 1 + 1), .func (.func g) #[] caps] w fun e w' => e = .returned (.int .i64 r) ∧ Below w.heap.size w w' from by
    rw [show L + (n : Int) - 1 + 1 = L + n by omega]
    refine (firstnum_any g caps p L n w eg a0 a1 n1 hf hm).mono ?_
    rintro e w1 ⟨q, rfl, hq, h1, h2, hb⟩
    exact ⟨ret_i ((firstat_least hq h1 h2).one hl), hb⟩)
  obtain ⟨l0, l1, _, _⟩ := hl
  obtain ⟨M, hM⟩ : ∃ M, M = L + (n : Int) - 1 := ⟨_, rfl⟩
  rw [← hM] at HF hr l1 ⊢
  have m0 : -1 ≤ M := by omega
  have m1 : M ≤ 201000000 := by omega
  clear hM eg hf hm n1
  rcases hr with ⟨k, rfl, rfl⟩ | ⟨k, rfl, rfl⟩
  · go_enter Tryz.func38, Tryz.ntmps38
    go_wp2_with (go_at_call 56; refine HF.out.mono ?_; rintro e w1 ⟨rfl, hb⟩)
    go_ret2
    exact ⟨rfl, hb⟩
  · go_enter Tryz.func38, Tryz.ntmps38
    go_wp2_with (go_at_call 56; refine HF.out.mono ?_; rintro e w1 ⟨rfl, hb⟩)
    go_ret2
    exact ⟨rfl, hb⟩
end Go.Proofs.YthheacebafleeacGreatDoor
