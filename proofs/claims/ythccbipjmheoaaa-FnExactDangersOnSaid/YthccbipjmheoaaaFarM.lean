/- Plain facts for the distance from a segment: a square over a square, of the program and of the model. No Go in sight. -/
import Derived.Test.YthccbipjmheoaaaKnuM
namespace Go.Proofs.Ythccbipjmheoaaa.Pm

/-- The square of the cross product over the square of the segment is at most that of a distance. -/
theorem gap_room {ax ay bx cy px py : Int} (h : sqd ax ay px py ≤ 80000000000) : crossOf ax ay bx cy px py * crossOf ax ay bx cy px py ≤ 80000000000 * sqd ax ay bx cy := by
  have e : crossOf ax ay bx cy px py * crossOf ax ay bx cy px py + alongOf ax ay bx cy px py * alongOf ax ay bx cy px py = sqd ax ay px py * sqd ax ay bx cy := by unfold crossOf alongOf sqd; grind
  have q := sq_nn (alongOf ax ay bx cy px py)
  have m := Int.mul_le_mul_of_nonneg_right h (sqd_nn ax ay bx cy)
  omega

theorem quo_room {n d q : Int} (hd : 0 < d) (h : QuoIs n d q) (hn : n ≤ 80000000000 * d) : q ≤ 80000000000 := by
  obtain ⟨h0, h1, h2⟩ := h
  exact Int.le_of_mul_le_mul_right (Int.le_trans h1 hn) hd

/-- The root of the quotient is what the distance asks. -/
theorem root_quo {n d q r : Int} (hd : 0 < d) (h : QuoIs n d q) (k : Root q r) : 0 ≤ r ∧ r * r * d ≤ n ∧ n < (r + 1) * (r + 1) * d := by
  obtain ⟨h0, h1, h2⟩ := h
  obtain ⟨k0, _, _, k3⟩ := k
  obtain ⟨a, b⟩ := k3 h0
  refine ⟨k0, Int.le_trans (Int.mul_le_mul_of_nonneg_right a (by omega)) h1, Int.lt_of_lt_of_le h2 (Int.mul_le_mul_of_nonneg_right (by omega) (by omega))⟩

/-- A product in two parts. -/
def PartsOf (n high rest : Int) : Prop := high * 1000000000000 + rest = n ∧ 0 ≤ rest ∧ rest < 1000000000000
theorem PartsOf.le {n m h r k s : Int} (p : PartsOf n h r) (q : PartsOf m k s) : (n ≤ m) ↔ (h < k ∨ h = k ∧ r ≤ s) := by
  unfold PartsOf at p q; omega

/-- The numbers that the model's product goes through. -/
theorem product_facts {a b : Int} (a0 : 0 ≤ a) (a1 : a ≤ 90000000000) (b0 : 0 ≤ b) (b1 : b ≤ 90000000000) :
    (0 ≤ a / 1000000 * (b % 1000000) ∧ a / 1000000 * (b % 1000000) ≤ 90000000000) ∧ (0 ≤ a % 1000000 * (b / 1000000) ∧ a % 1000000 * (b / 1000000) ≤ 90000000000) ∧
    (0 ≤ a % 1000000 * (b % 1000000) ∧ a % 1000000 * (b % 1000000) ≤ 1000000000000) ∧ (0 ≤ a / 1000000 * (b / 1000000) ∧ a / 1000000 * (b / 1000000) ≤ 8100000000) ∧
    PartsOf (a * b) (a / 1000000 * (b / 1000000) + ((a / 1000000 * (b % 1000000) + a % 1000000 * (b / 1000000)) * 1000000 + a % 1000000 * (b % 1000000)) / 1000000000000) (((a / 1000000 * (b % 1000000) + a % 1000000 * (b / 1000000)) * 1000000 + a % 1000000 * (b % 1000000)) % 1000000000000) := by
  have e1 : a = a / 1000000 * 1000000 + a % 1000000 := by omega
  have e2 : b = b / 1000000 * 1000000 + b % 1000000 := by omega
  have h1 : 0 ≤ a / 1000000 ∧ a / 1000000 ≤ 90000 := by omega
  have h2 : 0 ≤ b / 1000000 ∧ b / 1000000 ≤ 90000 := by omega
  have h3 : 0 ≤ a % 1000000 ∧ a % 1000000 ≤ 1000000 := by omega
  have h4 : 0 ≤ b % 1000000 ∧ b % 1000000 ≤ 1000000 := by omega
  generalize a / 1000000 = ah at *
  generalize a % 1000000 = al at *
  generalize b / 1000000 = bh at *
  generalize b % 1000000 = bl at *
  have hm : ∀ {x y A B : Int}, 0 ≤ x → x ≤ A → 0 ≤ y → y ≤ B → 0 ≤ x * y ∧ x * y ≤ A * B := fun {x y A B} x0 x1 y0 y1 => ⟨Int.mul_nonneg x0 y0, Int.mul_le_mul x1 y1 y0 (by omega)⟩
  refine ⟨hm h1.1 h1.2 h4.1 h4.2, hm h3.1 h3.2 h2.1 h2.2, hm h3.1 h3.2 h4.1 h4.2, hm h1.1 h1.2 h2.1 h2.2, ?_⟩
  have e : a * b = (ah * bh) * 1000000000000 + ((ah * bl + al * bh) * 1000000 + al * bl) := by rw [e1, e2]; grind
  unfold PartsOf
  omega

/-- What the search of the model keeps: the greatest number whose square times d is at most n lies between lo and hi. -/
def FarIs (n d lo hi : Int) : Prop := lo * lo * d ≤ n ∧ n < (hi + 1) * (hi + 1) * d
theorem sq_room {m : Int} (h0 : 0 ≤ m) (h1 : m ≤ 300000) : 0 ≤ m * m ∧ m * m ≤ 90000000000 := by
  have := sq_le h0 h1
  omega
end Go.Proofs.Ythccbipjmheoaaa.Pm
