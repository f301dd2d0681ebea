/- More plain facts of the calendar: the table of months; numbers of dates; months later. No Go in sight. -/
import Derived.Test.YtlelcecbpahliaaGreatDoorCalM
import Derived.Test.YtlelcecbpahliaaGreatDoorMath
namespace Go.Proofs.YtlelcecbpahliaaGreatDoor.Pm

def monTab : List Int := [31, 28, 31, 30, 31, 30, 31, 31, 30, 31, 30, 31]
theorem mon_tab (y m : Int) (r : Nat) (hr : m - 1 = (r : Int)) (h2 : m ≠ 2) (m1 : m ≤ 12) : monTab.getD r 0 = monthLen y m := by
  have hc : r = 0 ∨ r = 1 ∨ r = 2 ∨ r = 3 ∨ r = 4 ∨ r = 5 ∨ r = 6 ∨ r = 7 ∨ r = 8 ∨ r = 9 ∨ r = 10 ∨ r = 11 := by omega
  obtain rfl : m = (r : Int) + 1 := by omega
  rcases hc with rfl | rfl | rfl | rfl | rfl | rfl | rfl | rfl | rfl | rfl | rfl | rfl <;> first | rfl | (exact absurd rfl h2)

/-- The number of a date. -/
def dnumOf (y m d : Int) : Int := yearAt y + monthAt y m + d - 1
/-- Is there such a date? -/
def findB (y m d : Int) : Bool := inB 2000 2273 [y] && inB 1 12 [m] && inB 1 (monthLen y m) [d]
/-- Is it one of the days? -/
def dayOk (y m d : Int) : Bool := findB y m d && decide (dnumOf y m d ≤ 99999)
theorem find_iff {y m d : Int} : findB y m d = true ↔ (2000 ≤ y ∧ y ≤ 2273) ∧ (1 ≤ m ∧ m ≤ 12) ∧ 1 ≤ d ∧ d ≤ monthLen y m := by
  simp [findB, inB]; omega
theorem find_date {y m d : Int} (h : findB y m d = true) : DateIs (dnumOf y m d) y m d := by
  obtain ⟨⟨a, _⟩, ⟨b, c⟩, e, f⟩ := find_iff.1 h
  exact ⟨a, b, c, e, f, rfl⟩
theorem DateIs.num {n y m d : Int} (h : DateIs n y m d) (hn : n ≤ 99999) : dnumOf y m d = n ∧ dayOk y m d = true := by
  have hy := h.year hn
  obtain ⟨a, b, c, e, f, rfl⟩ := h
  refine ⟨rfl, ?_⟩
  unfold dayOk
  rw [find_iff.2 ⟨⟨a, hy⟩, ⟨b, c⟩, e, f⟩]
  rw [Bool.true_and, decide_eq_true_eq]; exact hn
theorem monthAt_bd (y m : Int) (h0 : 1 ≤ m) (h1 : m ≤ 12) : 0 ≤ monthAt y m ∧ monthAt y m ≤ 335 := by
  have hm : m = 1 ∨ m = 2 ∨ m = 3 ∨ m = 4 ∨ m = 5 ∨ m = 6 ∨ m = 7 ∨ m = 8 ∨ m = 9 ∨ m = 10 ∨ m = 11 ∨ m = 12 := by omega
  unfold monthAt
  by_cases hl : leapB y = true
  · simp only [hl]
    rcases hm with rfl | rfl | rfl | rfl | rfl | rfl | rfl | rfl | rfl | rfl | rfl | rfl <;> decide
  · have hl' : leapB y = false := by simpa using hl
    simp only [hl']
    rcases hm with rfl | rfl | rfl | rfl | rfl | rfl | rfl | rfl | rfl | rfl | rfl | rfl <;> decide
theorem yearAt_bd {y : Int} (h0 : 2000 ≤ y) (h1 : y ≤ 2400) : 0 ≤ yearAt y ∧ yearAt y ≤ 146462 := by
  unfold yearAt; omega
theorem num_bd {y m d : Int} (h : findB y m d = true) : 0 ≤ dnumOf y m d ∧ dnumOf y m d ≤ 200000 := by
  obtain ⟨⟨a, b⟩, ⟨c, e⟩, f, g⟩ := find_iff.1 h
  have h1 := yearAt_bd a (by omega)
  have h2 := monthAt_bd y m c e
  have h3 := monthLen_bd y m
  unfold dnumOf; omega

/-- Some months later. -/
def laterY (y m k : Int) : Int := (12 * y + m - 1 + k) / 12
def laterM (y m k : Int) : Int := (12 * y + m - 1 + k) % 12 + 1
theorem laterD_bd (y m d : Int) (h : 1 ≤ d) : 1 ≤ laterD y m d ∧ laterD y m d ≤ monthLen y m := by
  have := monthLen_bd y m
  unfold laterD; split <;> omega
/-- The days of a month, and the code. -/
def mdV (y m : Int) : Int × Int := if (inB 2000 2273 [y] && inB 1 12 [m]) = true then (monthLen y m, 0) else (0, 2)
/-- The number of a date, and the code. -/
def dayV (y m d : Int) : Int × Int := if dayOk y m d = true then (dnumOf y m d, 0) else (0, 2)
/-- The same, with another code. -/
def dayW (y m d : Int) : Int × Int := if dayOk y m d = true then (dnumOf y m d, 0) else (0, 6)
/-- The day some months later, and the code. -/
def addV (y m d k : Int) : Int × Int := dayW (laterY y m k) (laterM y m k) (laterD (laterY y m k) (laterM y m k) d)
end Go.Proofs.YtlelcecbpahliaaGreatDoor.Pm
