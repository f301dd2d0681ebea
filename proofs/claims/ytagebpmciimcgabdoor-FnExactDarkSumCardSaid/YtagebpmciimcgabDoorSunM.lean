/- Plain facts of the sun: sines of tenths of a degree, the declination, the height of the sun over the day. No Go in sight. -/
import Derived.Test.YtagebpmciimcgabDoorGeoP
namespace Go.Proofs.YtagebpmciimcgabDoor.Pm

theorem quo_mono {a b n : Int} (hn : 0 < n) (h : a ≤ b) : quo a n ≤ quo b n := by
  unfold quo; exact Int.ediv_le_ediv (by omega) (by omega)
theorem quo_nn {a n : Int} (hn : 0 < n) (h : 0 ≤ a) : 0 ≤ quo a n := by
  unfold quo; exact Int.ediv_nonneg (by omega) (by omega)
theorem dvr_mono {a b n : Int} (hn : 0 < n) (h : a ≤ b) : dvr a n ≤ dvr b n := by
  unfold dvr
  rw [if_neg (by omega), if_neg (by omega)]
  unfold dvp
  by_cases ha : a < 0
  · rw [if_pos ha]
    have := quo_nn hn (show 0 ≤ -a by omega)
    by_cases hb : b < 0
    · rw [if_pos hb]
      have := quo_mono hn (show -b ≤ -a by omega)
      omega
    · rw [if_neg hb]
      have := quo_nn hn (show 0 ≤ b by omega)
      omega
  · rw [if_neg ha, if_neg (by omega)]
    exact quo_mono hn h
theorem dvr_nn {a n : Int} (hn : 0 < n) (h : 0 ≤ a) : 0 ≤ dvr a n := by
  have := dvr_mono hn h
  rwa [dvr_zero n hn] at this

/-- A sine of tenths of a degree. -/
def sineT (t : Int) : Int := sinR (t / 10) + dvr ((sinR (t / 10 + 1) - sinR (t / 10)) * (t % 10)) 10
/-- The height of the sun over the equator, in tenths of a degree, on a day of the year. -/
def declOf (n : Int) : Int := -dvr (234 * cosR (dvr (360 * (n + 10)) 365)) 1000000
theorem decl_ok : ((List.range 367).all fun n => decide (-234 ≤ declOf (n : Int)) && decide (declOf (n : Int) ≤ 234)) = true := by decide +kernel
theorem decl_bd {n : Int} (h0 : 0 ≤ n) (h1 : n ≤ 366) : -234 ≤ declOf n ∧ declOf n ≤ 234 := by
  obtain ⟨k, rfl⟩ := Int.eq_ofNat_of_zero_le h0
  have := List.all_eq_true.1 decl_ok k (by simp; omega)
  simpa using this
theorem tenths_ok : ((List.range 235).all fun n => decide (0 ≤ sineT (900 - (n : Int))) && decide (sineT (900 - (n : Int)) ≤ 1000000)) = true := by decide +kernel
theorem tenths_nn {n : Int} (h0 : 0 ≤ n) (h1 : n ≤ 234) : 0 ≤ sineT (900 - n) ∧ sineT (900 - n) ≤ 1000000 := by
  obtain ⟨k, rfl⟩ := Int.eq_ofNat_of_zero_le h0
  have := List.all_eq_true.1 tenths_ok k (by simp; omega)
  simpa using this
theorem coslat_ok : ((List.range 133).all fun n => decide (0 ≤ cosR ((n : Int) - 66))) = true := by decide +kernel
theorem coslat_nn {n : Int} (h0 : -66 ≤ n) (h1 : n ≤ 66) : 0 ≤ cosR n := by
  obtain ⟨k, hk⟩ := Int.eq_ofNat_of_zero_le (show 0 ≤ n + 66 by omega)
  have := List.all_eq_true.1 coslat_ok k (by simp; omega)
  rw [show (k : Int) - 66 = n by omega] at this
  simpa using this

/-- The cosine of the sun's angle, k minutes from noon. -/
def hourOf (k : Int) : Int := cosR (k / 4) + dvr ((cosR (k / 4 + 1) - cosR (k / 4)) * (k % 4)) 4
theorem hour_ok : ((List.range 720).all fun k => decide (hourOf ((k : Int) + 1) ≤ hourOf (k : Int))) = true := by decide +kernel
theorem hour_step {k : Int} (h0 : 0 ≤ k) (h1 : k < 720) : hourOf (k + 1) ≤ hourOf k := by
  obtain ⟨j, rfl⟩ := Int.eq_ofNat_of_zero_le h0
  have := List.all_eq_true.1 hour_ok j (by simp; omega)
  simpa using this
theorem hour_mono {j k : Int} (h0 : 0 ≤ j) (h : j ≤ k) (h1 : k ≤ 720) : hourOf k ≤ hourOf j := by
  obtain ⟨n, rfl⟩ : ∃ n : Nat, k = j + n := ⟨(k - j).toNat, by omega⟩
  clear h
  induction n with
  | zero => simp
  | succ n ih =>
    have := ih (by omega)
    have := hour_step (k := j + n) (by omega) (by omega)
    rw [show j + ((n + 1 : Nat) : Int) = j + n + 1 by omega]
    omega
theorem hour_bd_ok : ((List.range 721).all fun k => decide (-1000000 ≤ hourOf (k : Int)) && decide (hourOf (k : Int) ≤ 1000000)) = true := by decide +kernel
theorem hour_bd {k : Int} (h0 : 0 ≤ k) (h1 : k ≤ 720) : -1000000 ≤ hourOf k ∧ hourOf k ≤ 1000000 := by
  obtain ⟨j, rfl⟩ := Int.eq_ofNat_of_zero_le h0
  have := List.all_eq_true.1 hour_bd_ok j (by simp; omega)
  simpa using this

/-- What the height hangs on: the part that stands still, the part that moves. -/
def stillOf (lat n : Int) : Int := dvr (sinR lat * sineT (declOf n)) 1000000
def movesOf (lat n : Int) : Int := dvr (cosR lat * sineT (900 - (if declOf n < 0 then -declOf n else declOf n))) 1000000
theorem moves_nn {lat n : Int} (h0 : -66 ≤ lat) (h1 : lat ≤ 66) (n0 : 0 ≤ n) (n1 : n ≤ 366) : 0 ≤ movesOf lat n := by
  unfold movesOf
  have b := decl_bd n0 n1
  exact dvr_nn (by omega) (Int.mul_nonneg (coslat_nn h0 h1) (tenths_nn (by split <;> omega) (by split <;> omega)).1)
/-- The sine of the sun's height, k minutes from noon. -/
def sunOf (lat n k : Int) : Int := stillOf lat n + dvr (movesOf lat n * hourOf k) 1000000
theorem sun_mono {lat n j k : Int} (h0 : -66 ≤ lat) (h1 : lat ≤ 66) (n0 : 0 ≤ n) (n1 : n ≤ 366) (j0 : 0 ≤ j) (h : j ≤ k) (k1 : k ≤ 720) : sunOf lat n k ≤ sunOf lat n j := by
  unfold sunOf
  have := dvr_mono (n := 1000000) (by omega) (Int.mul_le_mul_of_nonneg_left (hour_mono j0 h k1) (moves_nn h0 h1 n0 n1))
  omega
/-- What it is to be the first minute of daylight; -1 if there is none. -/
def RiseIs (lat n r : Int) : Prop := (r = -1 ∧ sunOf lat n 0 < -14000) ∨ (0 ≤ r ∧ r ≤ 720 ∧ -14000 ≤ sunOf lat n (720 - r) ∧ ∀ m, 0 ≤ m → m < r → sunOf lat n (720 - m) < -14000)
theorem RiseIs.one {lat n r s : Int} (h0 : -66 ≤ lat) (h1 : lat ≤ 66) (n0 : 0 ≤ n) (n1 : n ≤ 366) (h : RiseIs lat n r) (k : RiseIs lat n s) : r = s := by
  rcases h with ⟨e, a⟩ | ⟨r0, r1, r2, r3⟩ <;> rcases k with ⟨e', b⟩ | ⟨s0, s1, s2, s3⟩
  · omega
  · have := sun_mono (j := 0) (k := 720 - s) h0 h1 n0 n1 (Int.le_refl _) (by omega) (by omega); omega
  · have := sun_mono (j := 0) (k := 720 - r) h0 h1 n0 n1 (Int.le_refl _) (by omega) (by omega); omega
  · by_cases c : r < s
    · have := s3 r r0 c; omega
    · by_cases c2 : s < r
      · have := r3 s s0 c2; omega
      · omega
/-- Minutes from noon. -/
def fromNoon (m : Int) : Int := if m < 720 then 720 - m else m - 720
/-- The first minute behind daylight. -/
def setOf (r : Int) : Int := if r = 0 then 1440 else 1441 - r
/-- Minutes between are day, the others are not. -/
theorem day_iff {lat n r m : Int} (h0 : -66 ≤ lat) (h1 : lat ≤ 66) (n0 : 0 ≤ n) (n1 : n ≤ 366) (h : RiseIs lat n r) (hr : 0 ≤ r) (m0 : 0 ≤ m) (m1 : m ≤ 1439) : (-14000 ≤ sunOf lat n (fromNoon m)) ↔ (r ≤ m ∧ m < setOf r) := by
  rcases h with ⟨e, _⟩ | ⟨_, r1, r2, r3⟩
  · omega
  · unfold fromNoon setOf
    by_cases c : m < 720
    · rw [if_pos c]
      by_cases c2 : r ≤ m
      · have := sun_mono (j := 720 - m) (k := 720 - r) h0 h1 n0 n1 (by omega) (by omega) (by omega)
        constructor
        · intro _; split <;> omega
        · intro _; omega
      · have := r3 m m0 (by omega)
        constructor
        · intro _; omega
        · intro _; omega
    · rw [if_neg c]
      by_cases c2 : m - 720 ≤ 720 - r
      · have := sun_mono (j := m - 720) (k := 720 - r) h0 h1 n0 n1 (by omega) c2 (by omega)
        constructor
        · intro _; split <;> omega
        · intro _; omega
      · have a := r3 (r - 1) (by omega) (by omega)
        have := sun_mono (j := 720 - (r - 1)) (k := m - 720) h0 h1 n0 n1 (by omega) (by omega) (by omega)
        constructor
        · intro _; omega
        · intro hh; split at hh <;> omega
theorem night_all {lat n m : Int} (h0 : -66 ≤ lat) (h1 : lat ≤ 66) (n0 : 0 ≤ n) (n1 : n ≤ 366) (h : RiseIs lat n (-1)) (m0 : 0 ≤ m) (m1 : m ≤ 1439) : sunOf lat n (fromNoon m) < -14000 := by
  rcases h with ⟨_, a⟩ | ⟨b, _⟩
  · have := sun_mono (j := 0) (k := fromNoon m) h0 h1 n0 n1 (Int.le_refl _) (by unfold fromNoon; split <;> omega) (by unfold fromNoon; split <;> omega)
    omega
  · omega
/-- There is a first minute, or none. -/
theorem rise_ex {lat n : Int} : ∃ r, RiseIs lat n r := by
  by_cases h : ∃ k : Nat, k ≤ 720 ∧ -14000 ≤ sunOf lat n (720 - k)
  · have hw : ∀ j : Nat, (∃ k : Nat, k ≤ j ∧ k ≤ 720 ∧ -14000 ≤ sunOf lat n (720 - k)) → ∃ k : Nat, k ≤ 720 ∧ -14000 ≤ sunOf lat n (720 - k) ∧ ∀ i : Nat, i < k → sunOf lat n (720 - i) < -14000 := by
      intro j
      induction j with
      | zero => rintro ⟨k, h1, h2, h3⟩; exact ⟨k, h2, h3, fun i hi => by omega⟩
      | succ j ih =>
        intro ⟨k, h1, h2, h3⟩
        by_cases c : ∃ i : Nat, i < k ∧ -14000 ≤ sunOf lat n (720 - i)
        · obtain ⟨i, hi, hs⟩ := c
          exact ih ⟨i, by omega, by omega, hs⟩
        · exact ⟨k, h2, h3, fun i hi => by
            by_cases hs : -14000 ≤ sunOf lat n (720 - i)
            · exact absurd ⟨i, hi, hs⟩ c
            · omega⟩
    obtain ⟨k, h1, h2⟩ := h
    obtain ⟨r, r1, r2, r3⟩ := hw k ⟨k, Nat.le_refl _, h1, h2⟩
    refine ⟨r, .inr ⟨by omega, by omega, r2, fun m m0 m1 => ?_⟩⟩
    obtain ⟨i, rfl⟩ := Int.eq_ofNat_of_zero_le m0
    exact r3 i (by omega)
  · refine ⟨-1, .inl ⟨rfl, ?_⟩⟩
    by_cases hs : -14000 ≤ sunOf lat n 0
    · exact absurd ⟨720, Nat.le_refl _, hs⟩ h
    · omega
end Go.Proofs.YtagebpmciimcgabDoor.Pm
