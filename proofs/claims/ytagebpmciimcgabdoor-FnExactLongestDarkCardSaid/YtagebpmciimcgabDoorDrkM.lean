/- Plain facts of dark minutes over a season: their sum, the first day with the most. No Go in sight. -/
import Derived.Test.YtagebpmciimcgabDoorSunN
namespace Go.Proofs.YtagebpmciimcgabDoor.Pm

/-- What it is to be the dark minutes of a day. -/
def DarkIs (lat D v : Int) : Prop := ∃ n r, DoyIs D n ∧ RiseIs lat n r ∧ v = darkOf r
theorem dark_ex {lat D : Int} (h : 0 ≤ D) : ∃ v, DarkIs lat D v := by
  obtain ⟨n, hn⟩ := doy_ex h
  obtain ⟨r, hr⟩ := rise_ex (lat := lat) (n := n)
  exact ⟨_, n, r, hn, hr, rfl⟩
theorem DarkIs.one {lat D v u : Int} (l0 : -66 ≤ lat) (l1 : lat ≤ 66) (h : DarkIs lat D v) (k : DarkIs lat D u) : v = u := by
  obtain ⟨n, r, h1, h2, rfl⟩ := h
  obtain ⟨n', r', k1, k2, rfl⟩ := k
  obtain rfl := h1.one k1
  have b := h1.bd
  rw [h2.one l0 l1 (by omega) (by omega) k2]
theorem DarkIs.bd {lat D v : Int} (h : DarkIs lat D v) : 0 ≤ v ∧ v ≤ 1440 := by
  obtain ⟨n, r, _, h2, rfl⟩ := h
  have e := h2.le
  unfold darkOf
  split
  · omega
  · have := setOf_bd (show 0 ≤ r by omega) e.2
    omega
theorem darks_ex {lat a : Int} (h : 0 ≤ a) : ∃ f : Nat → Int, ∀ i : Nat, DarkIs lat (a + i) (f i) :=
  Classical.axiomOfChoice (fun i : Nat => dark_ex (lat := lat) (D := a + i) (by omega))

/-- The sum of the first k. -/
def sumTo (f : Nat → Int) : Nat → Int
  | 0 => 0
  | k + 1 => sumTo f k + f k
theorem sum_zero (f : Nat → Int) : sumTo f 0 = 0 := rfl
theorem sum_next (f : Nat → Int) (k : Nat) : sumTo f (k + 1) = sumTo f k + f k := rfl
theorem sum_bd {f : Nat → Int} (h : ∀ i, 0 ≤ f i ∧ f i ≤ 1440) (k : Nat) : 0 ≤ sumTo f k ∧ sumTo f k ≤ 1440 * k := by
  induction k with
  | zero => rw [sum_zero]; omega
  | succ k ih => rw [sum_next]; have := h k; omega
/-- What it is to be the first of k with the most, and this. -/
def BestIs (f : Nat → Int) (a : Int) (k : Nat) (day most : Int) : Prop := ∃ i, i < k ∧ day = a + i ∧ most = f i ∧ (∀ j, j < i → f j < f i) ∧ ∀ j, j < k → f j ≤ f i
theorem BestIs.one {f : Nat → Int} {a : Int} {k : Nat} {d m d' m' : Int} (h : BestIs f a k d m) (g : BestIs f a k d' m') : d = d' ∧ m = m' := by
  obtain ⟨i, i0, rfl, rfl, i1, i2⟩ := h
  obtain ⟨j, j0, rfl, rfl, j1, j2⟩ := g
  have e : i = j := by
    by_cases c : i < j
    · have := j1 i c; have := i2 j j0; omega
    · by_cases c2 : j < i
      · have := i1 j c2; have := j2 i i0; omega
      · omega
  subst e
  exact ⟨rfl, rfl⟩
theorem BestIs.first {f : Nat → Int} {a : Int} : BestIs f a 1 (a + (0 : Nat)) (f 0) := ⟨0, by omega, rfl, rfl, fun j hj => by omega, fun j hj => by
  have e : j = 0 := (by omega)
  rw [e]; exact Int.le_refl _⟩
theorem BestIs.more {f : Nat → Int} {a : Int} {k : Nat} {d m : Int} (h : BestIs f a k d m) (c : m < f k) : BestIs f a (k + 1) (a + k) (f k) := by
  obtain ⟨i, i0, rfl, rfl, i1, i2⟩ := h
  refine ⟨k, by omega, rfl, rfl, fun j hj => ?_, fun j hj => ?_⟩
  · have := i2 j hj; omega
  · by_cases e : j = k
    · subst e; exact Int.le_refl _
    · have := i2 j (by omega); omega
theorem BestIs.same {f : Nat → Int} {a : Int} {k : Nat} {d m : Int} (h : BestIs f a k d m) (c : ¬ m < f k) : BestIs f a (k + 1) d m := by
  obtain ⟨i, i0, rfl, rfl, i1, i2⟩ := h
  refine ⟨i, by omega, rfl, rfl, i1, fun j hj => ?_⟩
  by_cases e : j = k
  · subst e; omega
  · exact i2 j (by omega)
/-- Is it a season? -/
def seasonB (lat a c : Int) : Bool := askB lat a && inB 1 400 [c] && inB 0 99999 [a + c - 1]
theorem season_iff {lat a c : Int} : seasonB lat a c = true ↔ (-66 ≤ lat ∧ lat ≤ 66) ∧ (0 ≤ a ∧ a ≤ 99999) ∧ (1 ≤ c ∧ c ≤ 400) ∧ a + c - 1 ≤ 99999 := by
  simp [seasonB, askB, inB]; omega
theorem ask_iff {lat D : Int} : askB lat D = true ↔ (-66 ≤ lat ∧ lat ≤ 66) ∧ 0 ≤ D ∧ D ≤ 99999 := by
  simp [askB, inB]
end Go.Proofs.YtagebpmciimcgabDoor.Pm
