/- Plain facts on integers for chapter 1: quotients rounded to the nearest, numbers within bounds, roots. No Go in sight. -/
namespace Go.Proofs.YthccbipjmheoaaaDoor.Pm

/-- Is every number of a list within the bounds? -/
def inB (lo hi : Int) (zs : List Int) : Bool := zs.all fun z => decide (lo ≤ z) && decide (z ≤ hi)

/-- The least of a number and those of a list, as the code goes through them. -/
def leastOf (x : Int) : List Int → Int
  | [] => x
  | z :: zs => leastOf (if z < x then z else x) zs

def greatestOf (x : Int) : List Int → Int
  | [] => x
  | z :: zs => greatestOf (if x < z then z else x) zs

theorem leastOf_le (x : Int) (zs : List Int) : leastOf x zs ≤ x := by
  induction zs generalizing x with
  | nil => exact Int.le_refl _
  | cons z zs ih =>
    simp only [leastOf]
    have := ih (if z < x then z else x)
    split at this <;> split <;> omega

theorem leastOf_eq (x : Int) (zs : List Int) : (leastOf x zs = x) ↔ ∀ z ∈ zs, x ≤ z := by
  induction zs generalizing x with
  | nil => simp [leastOf]
  | cons z zs ih =>
    simp only [leastOf, List.mem_cons, forall_eq_or_imp]
    by_cases h : z < x
    · rw [if_pos h]
      have := leastOf_le z zs
      constructor
      · intro e; omega
      · intro e; omega
    · rw [if_neg h, ih]
      constructor
      · intro e; exact ⟨by omega, e⟩
      · intro e; exact e.2

theorem le_greatestOf (x : Int) (zs : List Int) : x ≤ greatestOf x zs := by
  induction zs generalizing x with
  | nil => exact Int.le_refl _
  | cons z zs ih =>
    simp only [greatestOf]
    have := ih (if x < z then z else x)
    split at this <;> split <;> omega

theorem greatestOf_eq (x : Int) (zs : List Int) : (greatestOf x zs = x) ↔ ∀ z ∈ zs, z ≤ x := by
  induction zs generalizing x with
  | nil => simp [greatestOf]
  | cons z zs ih =>
    simp only [greatestOf, List.mem_cons, forall_eq_or_imp]
    by_cases h : x < z
    · rw [if_pos h]
      have := le_greatestOf z zs
      constructor
      · intro e; omega
      · intro e; omega
    · rw [if_neg h, ih]
      constructor
      · intro e; exact ⟨by omega, e⟩
      · intro e; exact e.2

theorem inB_eq (lo hi : Int) (zs : List Int) : inB lo hi zs = (leastOf lo zs == lo && greatestOf hi zs == hi) := by
  rw [Bool.eq_iff_iff]
  simp only [inB, List.all_eq_true, Bool.and_eq_true, decide_eq_true_eq, beq_iff_eq, leastOf_eq, greatestOf_eq]
  constructor
  · intro h; exact ⟨fun z hz => (h z hz).1, fun z hz => (h z hz).2⟩
  · intro h z hz; exact ⟨h.1 z hz, h.2 z hz⟩

theorem leastOf_snoc (x : Int) (zs : List Int) (z : Int) : leastOf x (zs ++ [z]) = if z < leastOf x zs then z else leastOf x zs := by
  induction zs generalizing x with
  | nil => rfl
  | cons y zs ih => simp only [List.cons_append, leastOf]; exact ih _

theorem greatestOf_snoc (x : Int) (zs : List Int) (z : Int) : greatestOf x (zs ++ [z]) = if greatestOf x zs < z then z else greatestOf x zs := by
  induction zs generalizing x with
  | nil => rfl
  | cons y zs ih => simp only [List.cons_append, greatestOf]; exact ih _

/-- The nearest quotient of a number that is not negative and a positive one. -/
def quo (a b : Int) : Int := (2 * a + b) / (2 * b)
/-- The nearest quotient, halves away from 0. -/
def dvp (a b : Int) : Int := if a < 0 then -(quo (-a) b) else quo a b
def dvr (a b : Int) : Int := if b < 0 then dvp (-a) (-b) else dvp a b

theorem quo_eq (a b : Int) : (a + b / 2) / b = quo a b := by
  unfold quo
  rw [show (2 * a + b) / (2 * b) = (2 * a + b) / 2 / b from (Int.ediv_ediv_of_nonneg (by omega)).symm]
  congr 1
  omega

/-- What it is to be the root of a number, rounded down; of a negative one, 0. -/
def Root (n r : Int) : Prop := 0 ≤ r ∧ r ≤ 3037000499 ∧ (n < 0 → r = 0) ∧ (0 ≤ n → r * r ≤ n ∧ n < (r + 1) * (r + 1))

theorem Root.one {n r s : Int} (h : Root n r) (k : Root n s) : r = s := by
  obtain ⟨h0, _, h1, h2⟩ := h
  obtain ⟨k0, _, k1, k2⟩ := k
  by_cases hn : n < 0
  · rw [h1 hn, k1 hn]
  · obtain ⟨a, b⟩ := h2 (by omega)
    obtain ⟨c, d⟩ := k2 (by omega)
    by_cases h : r < s
    · have : (r + 1) * (r + 1) ≤ s * s := Int.mul_le_mul (by omega) (by omega) (by omega) (by omega)
      omega
    · by_cases h' : s < r
      · have : (s + 1) * (s + 1) ≤ r * r := Int.mul_le_mul (by omega) (by omega) (by omega) (by omega)
        omega
      · omega

theorem sq_le {m k : Int} (h0 : 0 ≤ m) (h : m ≤ k) : 0 ≤ m * m ∧ m * m ≤ k * k := ⟨Int.mul_nonneg h0 h0, Int.mul_le_mul h h h0 (by omega)⟩

end Go.Proofs.YthccbipjmheoaaaDoor.Pm
