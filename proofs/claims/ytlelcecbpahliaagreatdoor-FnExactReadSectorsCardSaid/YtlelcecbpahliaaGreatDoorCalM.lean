/- Plain facts of the calendar: years, months, dates and days. No Go in sight. -/
namespace Go.Proofs.YtlelcecbpahliaaGreatDoor.Pm

/-- Has a year 366 days? -/
def leapB (y : Int) : Bool := (decide (y % 4 = 0) && !decide (y % 100 = 0)) || decide (y % 400 = 0)
def yearLen (y : Int) : Int := if leapB y = true then 366 else 365
/-- The days ahead of a year, from 2000 on. -/
def yearAt (y : Int) : Int := 365 * (y - 2000) + ((y - 2000 + 3) / 4 - (y - 2000 + 99) / 100 + (y - 2000 + 399) / 400)
/-- The days of a month. -/
def monthLen (y m : Int) : Int := if m = 2 then (if leapB y = true then 29 else 28) else if m = 4 ∨ m = 6 ∨ m = 9 ∨ m = 11 then 30 else 31
/-- The days of a year ahead of a month. -/
def monthAt (y m : Int) : Int :=
  (if m ≤ 1 then 0 else if m = 2 then 31 else if m = 3 then 59 else if m = 4 then 90 else if m = 5 then 120 else if m = 6 then 151 else if m = 7 then 181 else if m = 8 then 212
   else if m = 9 then 243 else if m = 10 then 273 else if m = 11 then 304 else if m = 12 then 334 else 365) + (if 2 < m ∧ leapB y = true then 1 else 0)

theorem leap_iff (y : Int) : leapB y = true ↔ (y % 4 = 0 ∧ ¬ y % 100 = 0) ∨ y % 400 = 0 := by simp [leapB]
theorem yearLen_bd (y : Int) : 365 ≤ yearLen y ∧ yearLen y ≤ 366 := by unfold yearLen; split <;> omega
theorem yearAt_first : yearAt 2000 = 0 := by decide
theorem yearAt_next (y : Int) : yearAt (y + 1) = yearAt y + yearLen y := by
  unfold yearLen
  by_cases h : leapB y = true
  · rw [if_pos h]; rw [leap_iff] at h; unfold yearAt; omega
  · rw [if_neg h]; rw [leap_iff] at h; unfold yearAt; omega
theorem yearAt_mono {y z : Int} (h : y ≤ z) : yearAt y + 365 * (z - y) ≤ yearAt z := by
  obtain ⟨k, rfl⟩ : ∃ k : Nat, z = y + k := ⟨(z - y).toNat, by omega⟩
  clear h
  induction k with
  | zero => simp
  | succ k ih =>
    have e := yearAt_next (y + k)
    have b := yearLen_bd (y + k)
    rw [show y + ((k + 1 : Nat) : Int) = y + k + 1 by omega]
    omega
theorem monthLen_bd (y m : Int) : 28 ≤ monthLen y m ∧ monthLen y m ≤ 31 := by
  unfold monthLen
  split
  · split <;> omega
  · split <;> omega
theorem monthAt_first (y : Int) : monthAt y 1 = 0 := by unfold monthAt; simp
theorem monthAt_next (y m : Int) (h0 : 1 ≤ m) (h1 : m ≤ 12) : monthAt y (m + 1) = monthAt y m + monthLen y m := by
  have hm : m = 1 ∨ m = 2 ∨ m = 3 ∨ m = 4 ∨ m = 5 ∨ m = 6 ∨ m = 7 ∨ m = 8 ∨ m = 9 ∨ m = 10 ∨ m = 11 ∨ m = 12 := by omega
  unfold monthAt monthLen
  by_cases hl : leapB y = true
  · simp only [hl]
    rcases hm with rfl | rfl | rfl | rfl | rfl | rfl | rfl | rfl | rfl | rfl | rfl | rfl <;> decide
  · have hl' : leapB y = false := by simpa using hl
    simp only [hl']
    rcases hm with rfl | rfl | rfl | rfl | rfl | rfl | rfl | rfl | rfl | rfl | rfl | rfl <;> decide
theorem monthAt_end (y : Int) : monthAt y 13 = yearLen y := by
  unfold monthAt yearLen
  by_cases hl : leapB y = true
  · simp only [hl]; decide
  · have hl' : leapB y = false := by simpa using hl
    simp only [hl']; decide
theorem monthAt_mono {y m k : Int} (h0 : 1 ≤ m) (h : m < k) (h1 : k ≤ 13) : monthAt y m + monthLen y m ≤ monthAt y k := by
  obtain ⟨j, rfl⟩ : ∃ j : Nat, k = m + 1 + j := ⟨(k - m - 1).toNat, by omega⟩
  clear h
  induction j with
  | zero => rw [show m + 1 + ((0 : Nat) : Int) = m + 1 by omega, monthAt_next y m h0 (by omega)]; exact Int.le_refl _
  | succ j ih =>
    have e := monthAt_next y (m + 1 + j) (by omega) (by omega)
    have b := monthLen_bd y (m + 1 + j)
    have := ih (by omega)
    rw [show m + 1 + ((j + 1 : Nat) : Int) = m + 1 + j + 1 by omega]
    omega

/-- What it is to be the date of a day. -/
def DateIs (n y m d : Int) : Prop := 2000 ≤ y ∧ 1 ≤ m ∧ m ≤ 12 ∧ 1 ≤ d ∧ d ≤ monthLen y m ∧ n = yearAt y + monthAt y m + d - 1
theorem DateIs.inYear {n y m d : Int} (h : DateIs n y m d) : yearAt y ≤ n ∧ n < yearAt (y + 1) := by
  obtain ⟨_, h1, h2, h3, h4, rfl⟩ := h
  rw [yearAt_next, ← monthAt_end]
  have := monthAt_mono (y := y) (m := m) (k := 13) h1 (by omega) (Int.le_refl _)
  have h5 : 0 ≤ monthAt y m := by
    by_cases e : m = 1
    · rw [e, monthAt_first]; omega
    · have := monthAt_mono (y := y) (m := 1) (k := m) (Int.le_refl _) (by omega) (by omega)
      rw [monthAt_first] at this
      have := monthLen_bd y 1
      omega
  omega
theorem DateIs.one {n y m d y' m' d' : Int} (h : DateIs n y m d) (k : DateIs n y' m' d') : y = y' ∧ m = m' ∧ d = d' := by
  have hy := h.inYear
  have ky := k.inYear
  have e : y = y' := by
    by_cases h1 : y < y'
    · have := yearAt_mono (show y + 1 ≤ y' by omega); omega
    · by_cases h2 : y' < y
      · have := yearAt_mono (show y' + 1 ≤ y by omega); omega
      · omega
  subst e
  obtain ⟨_, a1, a2, a3, a4, a5⟩ := h
  obtain ⟨_, b1, b2, b3, b4, b5⟩ := k
  have e : m = m' := by
    by_cases h1 : m < m'
    · have := monthAt_mono (y := y) (m := m) (k := m') a1 h1 (by omega); omega
    · by_cases h2 : m' < m
      · have := monthAt_mono (y := y) (m := m') (k := m) b1 h2 (by omega); omega
      · omega
  subst e
  exact ⟨rfl, rfl, by omega⟩
theorem DateIs.nn {n y m d : Int} (h : DateIs n y m d) : 0 ≤ n := by
  have := h.inYear
  have := yearAt_mono (show 2000 ≤ y from h.1)
  rw [yearAt_first] at this
  have := h.1
  omega
/-- The days up to 99999 are of the years 2000 to 2273. -/
theorem DateIs.year {n y m d : Int} (h : DateIs n y m d) (hn : n ≤ 99999) : y ≤ 2273 := by
  by_cases h1 : y ≤ 2273
  · exact h1
  · have e : yearAt 2274 = 100077 := by decide
    have := yearAt_mono (show 2274 ≤ y by omega)
    have := h.inYear
    omega
/-- The next day. -/
theorem DateIs.next {n y m d : Int} (h : DateIs n y m d) : (d < monthLen y m ∧ DateIs (n + 1) y m (d + 1)) ∨ (d = monthLen y m ∧ m < 12 ∧ DateIs (n + 1) y (m + 1) 1) ∨ (d = monthLen y m ∧ m = 12 ∧ DateIs (n + 1) (y + 1) 1 1) := by
  obtain ⟨h0, h1, h2, h3, h4, h5⟩ := h
  by_cases c : d < monthLen y m
  · exact .inl ⟨c, h0, h1, h2, by omega, by omega, by omega⟩
  · by_cases c2 : m < 12
    · have b := monthLen_bd y (m + 1)
      refine .inr (.inl ⟨by omega, c2, h0, by omega, by omega, by omega, by omega, ?_⟩)
      rw [monthAt_next y m h1 h2]; omega
    · have e : m = 12 := by omega
      subst e
      have b := monthLen_bd (y + 1) 1
      refine .inr (.inr ⟨by omega, rfl, by omega, by omega, by omega, by omega, by omega, ?_⟩)
      rw [yearAt_next, monthAt_first, ← monthAt_end]
      have := monthAt_next y 12 h1 h2
      rw [show (12 : Int) + 1 = 13 by rfl] at this
      omega
/-- Each day has a date. -/
theorem date_ex {n : Int} (h0 : 0 ≤ n) : ∃ y m d, DateIs n y m d := by
  obtain ⟨k, rfl⟩ := Int.eq_ofNat_of_zero_le h0
  clear h0
  induction k with
  | zero => exact ⟨2000, 1, 1, by unfold DateIs; decide⟩
  | succ k ih =>
    obtain ⟨y, m, d, h⟩ := ih
    rw [show ((k + 1 : Nat) : Int) = (k : Int) + 1 by omega]
    rcases h.next with ⟨_, h⟩ | ⟨_, _, h⟩ | ⟨_, _, h⟩
    · exact ⟨_, _, _, h⟩
    · exact ⟨_, _, _, h⟩
    · exact ⟨_, _, _, h⟩
/-- The number of a date. -/
theorem date_num {y m d : Int} (h0 : 2000 ≤ y) (h1 : 1 ≤ m) (h2 : m ≤ 12) (h3 : 1 ≤ d) (h4 : d ≤ monthLen y m) : DateIs (yearAt y + monthAt y m + d - 1) y m d := ⟨h0, h1, h2, h3, h4, rfl⟩

/-- Twelve months later: the same date a year later, but for the last of February. -/
def laterD (y m d : Int) : Int := if d < monthLen y m then d else monthLen y m
theorem later_year {y m d : Int} (h1 : 1 ≤ m) (h2 : m ≤ 12) (h4 : d ≤ monthLen y m) :
    laterD (y + 1) m d = d ∨ (m = 2 ∧ d = 29 ∧ laterD (y + 1) m d = 28) := by
  have hm : m = 2 ∨ monthLen (y + 1) m = monthLen y m := by
    by_cases e : m = 2
    · exact .inl e
    · right; unfold monthLen; rw [if_neg e, if_neg e]
  unfold laterD
  rcases hm with rfl | e
  · unfold monthLen at h4 ⊢
    simp only [if_true] at h4 ⊢
    cases leapB y <;> cases leapB (y + 1) <;> simp at h4 ⊢ <;> omega
  · rw [e]; left
    by_cases c : d < monthLen y m
    · rw [if_pos c]
    · rw [if_neg c]; omega
/-- Months counted from year 0. -/
theorem months_split {y m k : Int} (h1 : 1 ≤ m) (h2 : m ≤ 12) (hk : 0 ≤ k) : 1 ≤ (12 * y + m - 1 + k) % 12 + 1 ∧ (12 * y + m - 1 + k) % 12 + 1 ≤ 12 ∧ y ≤ (12 * y + m - 1 + k) / 12 := by omega
theorem months_year {y m : Int} (h1 : 1 ≤ m) (h2 : m ≤ 12) : (12 * y + m - 1 + 12) / 12 = y + 1 ∧ (12 * y + m - 1 + 12) % 12 + 1 = m := by omega

end Go.Proofs.YtlelcecbpahliaaGreatDoor.Pm
