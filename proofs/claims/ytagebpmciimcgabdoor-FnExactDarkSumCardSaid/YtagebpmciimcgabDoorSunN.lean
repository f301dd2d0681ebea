/- More plain facts of the sun: bounds; the day of the year; minutes of daylight. No Go in sight. -/
import Derived.Test.YtagebpmciimcgabDoorSunM
import Derived.Test.YtagebpmciimcgabDoorCalD
namespace Go.Proofs.YtagebpmciimcgabDoor.Pm

/-- What it is to be the day of the year of a day. -/
def DoyIs (D n : Int) : Prop := ∃ y m d, DateIs D y m d ∧ n = D - yearAt y + 1
theorem DoyIs.bd {D n : Int} (h : DoyIs D n) : 1 ≤ n ∧ n ≤ 366 := by
  obtain ⟨y, m, d, h, rfl⟩ := h
  have := h.inYear
  have e := yearAt_next y
  have := yearLen_bd y
  omega
theorem DoyIs.nn {D n : Int} (h : DoyIs D n) : 0 ≤ D := by
  obtain ⟨y, m, d, h, _⟩ := h
  exact h.nn
theorem doy_ex {D : Int} (h : 0 ≤ D) : ∃ n, DoyIs D n := by
  obtain ⟨y, m, d, h⟩ := date_ex h
  exact ⟨_, y, m, d, h, rfl⟩
theorem DoyIs.one {D n k : Int} (h : DoyIs D n) (h2 : DoyIs D k) : n = k := by
  obtain ⟨y, m, d, h, rfl⟩ := h
  obtain ⟨y', m', d', h2, rfl⟩ := h2
  obtain ⟨rfl, _, _⟩ := h.one h2
  rfl

theorem part_bd (a b r n : Int) (hn : 0 < n) (r0 : 0 ≤ r) (r1 : r ≤ n) (a0 : -1000000 ≤ a) (a1 : a ≤ 1000000) (b0 : -1000000 ≤ b) (b1 : b ≤ 1000000) : -1000000 ≤ a + dvr ((b - a) * r) n ∧ a + dvr ((b - a) * r) n ≤ 1000000 := by
  have h := dvr_part (i := r) (w := b - a) (n := n) hn r0 r1
  rw [Int.mul_comm (b - a) r]
  by_cases c : 0 ≤ b - a
  · have := h.1 c; omega
  · have := h.2 (by omega); omega
theorem sineT_bd (t : Int) : -1000000 ≤ sineT t ∧ sineT t ≤ 1000000 := by
  unfold sineT
  have h0 := sin_bd (t / 10)
  have h1 := sin_bd (t / 10 + 1)
  exact part_bd _ _ _ 10 (by omega) (by omega) (by omega) h0.1 h0.2 h1.1 h1.2
theorem cos_bd (d : Int) : -1000000 ≤ cosR d ∧ cosR d ≤ 1000000 := sin_bd _
theorem mulAB (a b A B : Int) (a0 : -A ≤ a) (a1 : a ≤ A) (b0 : -B ≤ b) (b1 : b ≤ B) : -(A * B) ≤ a * b ∧ a * b ≤ A * B := by
  have h1 : 0 ≤ (A - a) * (B - b) := Int.mul_nonneg (by omega) (by omega)
  have h2 : 0 ≤ (A + a) * (B + b) := Int.mul_nonneg (by omega) (by omega)
  have h3 : 0 ≤ (A - a) * (B + b) := Int.mul_nonneg (by omega) (by omega)
  have h4 : 0 ≤ (A + a) * (B - b) := Int.mul_nonneg (by omega) (by omega)
  constructor <;> grind
theorem dvr_lim (a : Int) (h0 : -1000000000000 ≤ a) (h1 : a ≤ 1000000000000) : -1000000 ≤ dvr a 1000000 ∧ dvr a 1000000 ≤ 1000000 := by
  have := dnear a 1000000 (by omega)
  omega
theorem still_bd (lat n : Int) : -1000000 ≤ stillOf lat n ∧ stillOf lat n ≤ 1000000 := by
  unfold stillOf
  have h1 := sin_bd lat
  have h2 := sineT_bd (declOf n)
  have := mulAB _ _ 1000000 1000000 h1.1 h1.2 h2.1 h2.2
  exact dvr_lim _ (by omega) (by omega)
theorem moves_bd (lat n : Int) : -1000000 ≤ movesOf lat n ∧ movesOf lat n ≤ 1000000 := by
  unfold movesOf
  have h1 := cos_bd lat
  have h2 := sineT_bd (900 - (if declOf n < 0 then -declOf n else declOf n))
  have := mulAB _ _ 1000000 1000000 h1.1 h1.2 h2.1 h2.2
  exact dvr_lim _ (by omega) (by omega)
/-- The sine of the height at a minute, of a part that stands still and one that moves. -/
def pathAt (mid sw minute : Int) : Int := mid + dvr (sw * hourOf (fromNoon minute)) 1000000
theorem path_sun (lat n minute : Int) : pathAt (stillOf lat n) (movesOf lat n) minute = sunOf lat n (fromNoon minute) := rfl
theorem hourOf_bd (k : Int) : -1000000 ≤ hourOf k ∧ hourOf k ≤ 1000000 := by
  unfold hourOf
  have h0 := cos_bd (k / 4)
  have h1 := cos_bd (k / 4 + 1)
  exact part_bd _ _ _ 4 (by omega) (by omega) (by omega) h0.1 h0.2 h1.1 h1.2
theorem path_bd (mid sw minute : Int) (h0 : -1000000 ≤ mid) (h1 : mid ≤ 1000000) (s0 : -1000000 ≤ sw) (s1 : sw ≤ 1000000) : -2000000 ≤ pathAt mid sw minute ∧ pathAt mid sw minute ≤ 2000000 := by
  unfold pathAt
  have h2 := hourOf_bd (fromNoon minute)
  have := mulAB _ _ 1000000 1000000 s0 s1 h2.1 h2.2
  have := dvr_lim _ (show -1000000000000 ≤ sw * hourOf (fromNoon minute) by omega) (by omega)
  omega
theorem noon_bd (m : Int) (h0 : 0 ≤ m) (h1 : m ≤ 1440) : 0 ≤ fromNoon m ∧ fromNoon m ≤ 720 := by unfold fromNoon; split <;> omega
/-- Minutes of a day without daylight. -/
def darkOf (r : Int) : Int := if r < 0 then 1440 else 1440 - (setOf r - r)
theorem tmod10 (t : Int) : ∃ m : Int, t.tmod 10 = m ∧ -9 ≤ m ∧ m ≤ 9 ∧ (m + 10).tmod 10 = t % 10 := by
  refine ⟨t.tmod 10, rfl, ?_⟩
  have h : t.tmod 10 = if 0 ≤ t then t % 10 else -((-t) % 10) := by
    split
    · exact Int.tmod_eq_emod_of_nonneg (by omega)
    · obtain ⟨c, rfl⟩ : ∃ c, t = -c := ⟨-t, by omega⟩
      rw [Int.neg_tmod, Int.neg_neg, Int.tmod_eq_emod_of_nonneg (by omega)]
  rw [h]
  have h2 : -9 ≤ (if 0 ≤ t then t % 10 else -((-t) % 10)) ∧ (if 0 ≤ t then t % 10 else -((-t) % 10)) ≤ 9 := by split <;> omega
  refine ⟨h2.1, h2.2, ?_⟩
  rw [Int.tmod_eq_emod_of_nonneg (by omega)]
  split <;> omega
theorem tdiv10 (t : Int) : (t - t % 10).tdiv 10 = t / 10 := by
  rw [show t - t % 10 = t / 10 * 10 by omega, Int.mul_tdiv_cancel _ (by omega)]
theorem tdivq (t : Int) : (0 ≤ t.tmod 10 ∧ t.tdiv 10 = t / 10) ∨ (t.tmod 10 < 0 ∧ t.tdiv 10 - 1 = t / 10) := by
  by_cases c : 0 ≤ t
  · left; rw [Int.tmod_eq_emod_of_nonneg c, Int.tdiv_eq_ediv_of_nonneg c]; omega
  · obtain ⟨s, rfl⟩ : ∃ s, t = -s := ⟨-t, by omega⟩
    rw [Int.neg_tmod, Int.neg_tdiv, Int.tmod_eq_emod_of_nonneg (by omega), Int.tdiv_eq_ediv_of_nonneg (by omega)]
    omega
/-- Is it a latitude and a day? -/
def askB (lat D : Int) : Bool := inB (-66) 66 [lat] && inB 0 99999 [D]
theorem ask_out {lat D : Int} (h : askB lat D = true) : inB (-66) 66 [lat] = true ∧ 0 ≤ D ∧ D ≤ 99999 := by
  unfold askB at h
  rw [Bool.and_eq_true] at h
  exact ⟨h.1, by simpa [inB] using h.2⟩
/-- Is it light at a minute? -/
def litS (lat n m : Int) : Bool := decide (-14000 ≤ sunOf lat n (fromNoon m))
theorem setOf_bd {r : Int} (h0 : 0 ≤ r) (h1 : r ≤ 720) : 720 < setOf r ∧ setOf r ≤ 1440 ∧ r < setOf r := by unfold setOf; split <;> omega
theorem RiseIs.le {lat n r : Int} (h : RiseIs lat n r) : -1 ≤ r ∧ r ≤ 720 := by
  rcases h with ⟨h, _⟩ | ⟨h1, h2, _⟩ <;> omega
theorem lit_iff {lat n r m : Int} (h0 : -66 ≤ lat) (h1 : lat ≤ 66) (n0 : 0 ≤ n) (n1 : n ≤ 366) (h : RiseIs lat n r) (hr : 0 ≤ r) (m0 : 0 ≤ m) (m1 : m ≤ 1439) : litS lat n m = decide (r ≤ m ∧ m < setOf r) := by
  have := day_iff h0 h1 n0 n1 h hr m0 m1
  unfold litS
  exact decide_eq_decide.2 this
theorem lit_noon {lat n r : Int} (h0 : -66 ≤ lat) (h1 : lat ≤ 66) (n0 : 0 ≤ n) (n1 : n ≤ 366) (h : RiseIs lat n r) (hr : 0 ≤ r) : litS lat n 720 = true := by
  rw [lit_iff h0 h1 n0 n1 h hr (by omega) (by omega)]
  have b := setOf_bd hr h.le.2
  have c := h.le
  simp; omega
theorem lit_none {lat n m : Int} (h0 : -66 ≤ lat) (h1 : lat ≤ 66) (n0 : 0 ≤ n) (n1 : n ≤ 366) (h : RiseIs lat n (-1)) (m0 : 0 ≤ m) (m1 : m ≤ 1439) : litS lat n m = false := by
  have := night_all h0 h1 n0 n1 h m0 m1
  unfold litS
  simp; omega
theorem rise_first {lat n r : Int} (k : Nat) (h0 : -66 ≤ lat) (h1 : lat ≤ 66) (n0 : 0 ≤ n) (n1 : n ≤ 366) (h : RiseIs lat n r) (hr : 0 ≤ r) (hk : k ≤ 720)
    (f : ∀ t : Nat, t < k → litS lat n (0 + t) = false) (g : ∀ t : Nat, k ≤ t → t < 720 → litS lat n (0 + t) = true) : (k : Int) = r := by
  have b := setOf_bd hr h.le.2
  have c := h.le
  obtain ⟨j, rfl⟩ := Int.eq_ofNat_of_zero_le hr
  by_cases q : k < j
  · have e := g k (Nat.le_refl _) (by omega)
    rw [lit_iff h0 h1 n0 n1 h hr (by omega) (by omega)] at e
    simp at e; omega
  · by_cases q2 : j < k
    · have e := f j q2
      rw [lit_iff h0 h1 n0 n1 h hr (by omega) (by omega)] at e
      simp at e; omega
    · omega
theorem set_first {lat n r : Int} (k : Nat) (h0 : -66 ≤ lat) (h1 : lat ≤ 66) (n0 : 0 ≤ n) (n1 : n ≤ 366) (h : RiseIs lat n r) (hr : 0 ≤ r) (hk : k ≤ 720)
    (f : ∀ t : Nat, t < k → (!litS lat n (720 + t)) = false) (g : ∀ t : Nat, k ≤ t → t < 720 → (!litS lat n (720 + t)) = true) : 720 + (k : Int) = setOf r := by
  have b := setOf_bd hr h.le.2
  have c := h.le
  obtain ⟨j, hj⟩ := Int.eq_ofNat_of_zero_le (show 0 ≤ setOf r - 720 by omega)
  by_cases q : k < j
  · have e := g k (Nat.le_refl _) (by omega)
    rw [lit_iff h0 h1 n0 n1 h hr (by omega) (by omega)] at e
    simp at e; omega
  · by_cases q2 : j < k
    · have e := f j q2
      rw [lit_iff h0 h1 n0 n1 h hr (by omega) (by omega)] at e
      simp at e; omega
    · omega
theorem rise_up {lat n r : Int} (h0 : -66 ≤ lat) (h1 : lat ≤ 66) (n0 : 0 ≤ n) (n1 : n ≤ 366) (h : RiseIs lat n r) (hr : 0 ≤ r) (x y : Nat) (hxy : x ≤ y) (hy : y < 720) (hx : litS lat n (0 + x) = true) : litS lat n (0 + y) = true := by
  have b := setOf_bd hr h.le.2
  rw [lit_iff h0 h1 n0 n1 h hr (by omega) (by omega)] at hx ⊢
  simp at hx ⊢; omega
theorem set_up {lat n r : Int} (h0 : -66 ≤ lat) (h1 : lat ≤ 66) (n0 : 0 ≤ n) (n1 : n ≤ 366) (h : RiseIs lat n r) (hr : 0 ≤ r) (x y : Nat) (hxy : x ≤ y) (hy : y < 720) (hx : (!litS lat n (720 + x)) = true) : (!litS lat n (720 + y)) = true := by
  have c := h.le
  rw [lit_iff h0 h1 n0 n1 h hr (by omega) (by omega)] at hx ⊢
  simp at hx ⊢; omega
/-- The sine of tenths of a degree; 0 beyond a hundred circles. -/
def sineTV (t : Int) : Int := if inB (-36000) 36000 [t] = true then sineT t else 0
/-- The kind of light. -/
def kindOf (v : Int) : Int := if -14000 ≤ v then 1 else if -104528 ≤ v then 2 else 3
/-- What daylight there is: the first minute, the one behind the last, and the code. -/
def dayL (r : Int) : Int × Int × Int := if r < 0 then (0, 0, 3) else (r, setOf r, 0)
end Go.Proofs.YtagebpmciimcgabDoor.Pm
