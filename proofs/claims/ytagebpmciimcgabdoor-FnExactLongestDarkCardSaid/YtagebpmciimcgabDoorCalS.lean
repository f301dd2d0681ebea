/- The model's calendar. -/
import Derived.Test.YtagebpmciimcgabDoorCalI
import Derived.Test.YtagebpmciimcgabDoorCalD
namespace Go.Proofs.YtagebpmciimcgabDoor
open Go.ChangeShapes Go.WideShapes Go.ChangeAt Go.RowKit Pm

theorem sleap_any (y : Int) (w : World) (h0 : 0 ≤ y) :
    Calls Tryd.prog 148 #[.int .i64 y] w fun e w' => e = .returned (.bool (leapB y)) ∧ w = w' := by
  by_cases h4 : y % 4 = 0
  · by_cases h100 : y % 100 = 0
    · by_cases h400 : y % 400 = 0
      · have HL := Lib.hid (show leapB y = true by rw [leap_iff]; omega)
        have b1 : (y % 4 == 0) = true := by simp [h4]
        have b2 : (y % 100 == 0) = true := by simp [h100]
        have b3 : (y % 400 == 0) = true := by simp [h400]
        have b2' : (y % 100 != 0) = false := by simp [h100]
        clear h4 h100 h400
        go_enter Tryd.func148, Tryd.ntmps148
        go_wp2
        go_ret
        exact ⟨retB (by rw [HL.out]), rfl⟩
      · have HL := Lib.hid (show leapB y = false by rw [← Bool.not_eq_true, leap_iff]; omega)
        have b1 : (y % 4 == 0) = true := by simp [h4]
        have b2 : (y % 100 == 0) = true := by simp [h100]
        have b3 : (y % 400 == 0) = false := by simp [h400]
        have b2' : (y % 100 != 0) = false := by simp [h100]
        clear h4 h100 h400
        go_enter Tryd.func148, Tryd.ntmps148
        go_wp2
        go_ret
        exact ⟨retB (by rw [HL.out]), rfl⟩
    · have HL := Lib.hid (show leapB y = true by rw [leap_iff]; omega)
      have b1 : (y % 4 == 0) = true := by simp [h4]
      have b2 : (y % 100 == 0) = false := by simp [h100]
      have b2' : (y % 100 != 0) = true := by simp [h100]
      clear h4 h100
      go_enter Tryd.func148, Tryd.ntmps148
      go_wp2
      go_ret
      exact ⟨retB (by rw [HL.out]), rfl⟩
  · by_cases h400 : y % 400 = 0
    · omega
    · have HL := Lib.hid (show leapB y = false by rw [← Bool.not_eq_true, leap_iff]; omega)
      have b1 : (y % 4 == 0) = false := by simp [h4]
      have b3 : (y % 400 == 0) = false := by simp [h400]
      clear h4 h400
      go_enter Tryd.func148, Tryd.ntmps148
      go_wp2
      go_ret
      exact ⟨retB (by rw [HL.out]), rfl⟩

theorem sday_any (n : Int) (w : World) :
    Calls Tryd.prog 141 #[.int .i64 n] w fun e w' => e = .returned (.bool (inB 0 99999 [n])) ∧ w = w' := by
  go_enter Tryd.func141, Tryd.ntmps141
  go_wp2_with (go_at_call 90; refine (in_any _ _ _ _).mono ?_; rintro e w' ⟨rfl, rfl⟩)
  go_ret
  exact ⟨rfl, rfl⟩


theorem sdays_any (y m : Int) (w : World) (h0 : 0 ≤ y) (m0 : 1 ≤ m) (m1 : m ≤ 12) :
    Calls Tryd.prog 147 #[.int .i64 y, .int .i64 m] w fun e w' => e = .returned (.int .i64 (monthLen y m)) ∧ w = w' := by
  by_cases h2 : m = 2
  · subst h2
    cases hl : leapB y
    · have HV := Lib.hid (show (28 : Int) = monthLen y 2 by unfold monthLen; rw [hl]; rfl)
      have HL := Lib.hid (fun w => hl ▸ sleap_any y w h0)
      clear hl
      go_enter Tryd.func147, Tryd.ntmps147
      go_wp2_with (go_at_call 148; refine (HL.out _).mono ?_; rintro e w1 ⟨rfl, rfl⟩)
      go_ret
      exact ⟨ret_i HV.out, rfl⟩
    · have HV := Lib.hid (show (29 : Int) = monthLen y 2 by unfold monthLen; rw [hl]; rfl)
      have HL := Lib.hid (fun w => hl ▸ sleap_any y w h0)
      clear hl
      go_enter Tryd.func147, Tryd.ntmps147
      go_wp2_with (go_at_call 148; refine (HL.out _).mono ?_; rintro e w1 ⟨rfl, rfl⟩)
      go_ret
      exact ⟨ret_i HV.out, rfl⟩
  · have hm : m = 1 ∨ m = 3 ∨ m = 4 ∨ m = 5 ∨ m = 6 ∨ m = 7 ∨ m = 8 ∨ m = 9 ∨ m = 10 ∨ m = 11 ∨ m = 12 := by omega
    clear m0 m1 h2
    rcases hm with rfl | rfl | rfl | rfl | rfl | rfl | rfl | rfl | rfl | rfl | rfl
    all_goals
      go_enter Tryd.func147, Tryd.ntmps147
      go_wp2
      go_ret
      exact ⟨ret_i (by unfold monthLen; simp), rfl⟩

/-- Three numbers are returned, the world as it was. -/
def Same3 (a b c : Int) (w : World) (e : Ending) (w' : World) : Prop := e = .returned (.tuple #[.int .i64 a, .int .i64 b, .int .i64 c]) ∧ w = w'
def Same4 (a b c d : Int) (w : World) (e : Ending) (w' : World) : Prop := e = .returned (.tuple #[.int .i64 a, .int .i64 b, .int .i64 c, .int .i64 d]) ∧ w = w'
def Same2 (a b : Int) (w : World) (e : Ending) (w' : World) : Prop := e = .returned (.tuple #[.int .i64 a, .int .i64 b]) ∧ w = w'
def SameIB (a : Int) (b : Bool) (w : World) (e : Ending) (w' : World) : Prop := e = .returned (.tuple #[.int .i64 a, .bool b]) ∧ w = w'

set_option maxRecDepth 100000 in
theorem sdate_any (n y m d : Int) (w : World) (h : DateIs n y m d) (hn : n ≤ 99999) :
    Calls Tryd.prog 142 #[.int .i64 n] w (Same3 y m d w) := by
  have hn0 := h.nn
  have HH := Lib.hid h
  clear h
  go_enter Tryd.func142, Tryd.ntmps142
  go_wp2
  go_loop [0, 5, 6] (fun s0 s5 s6 => ∃ (k yy mm : Int), s0 = .int .i64 k ∧ s5 = .int .i64 yy ∧ s6 = .int .i64 mm ∧ 0 ≤ k ∧ k ≤ 99999 ∧ 2000 ≤ yy ∧ yy ≤ 2273 ∧ 1 ≤ mm ∧ mm ≤ 12 ∧ Hid (n = yearAt yy + monthAt yy mm + k)) (fun s0 _ _ => (intOf s0).toNat)
  case atStart => exact ⟨n, 2000, 1, rfl, rfl, rfl, hn0, hn, by omega, by omega, by omega, by omega, Lib.hid (by rw [yearAt_first, monthAt_first]; omega)⟩
  case round =>
    obtain ⟨k, yy, mm, rfl, rfl, rfl, k0, k1, y0, y1, m0, m1, HE⟩ := hrel
    have hlb := monthLen_bd yy mm
    have HL := Lib.hid (fun w => sdays_any yy mm w (by omega) m0 m1)
    obtain ⟨l, hl⟩ : ∃ l, l = monthLen yy mm := ⟨_, rfl⟩
    rw [← hl] at HL hlb
    by_cases c : l ≤ k
    · by_cases c2 : mm < 12
      · have HN := Lib.hid (show n = yearAt yy + monthAt yy (mm + 1) + (k - l) by rw [monthAt_next yy mm m0 m1, ← hl]; have := HE.out; omega)
        clear hl
        go_wp2_with (go_at_call 147; refine (HL.out _).mono ?_; rintro e w1 ⟨rfl, rfl⟩)
        go_round
        case rel => exact ⟨k - l, yy, mm + 1, rfl, rfl, rfl, by omega, by omega, by omega, by omega, by omega, by omega, HN⟩
        case measure => simp [intOf]; omega
      · obtain rfl : mm = 12 := by omega
        have hE := HE.out
        have hN : n = yearAt (yy + 1) + monthAt (yy + 1) 1 + (k - l) := by
          rw [yearAt_next, monthAt_first, ← monthAt_end]
          have := monthAt_next yy 12 m0 m1
          rw [show (12 : Int) + 1 = 13 by rfl, ← hl] at this
          omega
        have hyy : yy + 1 ≤ 2273 := by
          by_cases h1 : yy + 1 ≤ 2273
          · exact h1
          · have e : yearAt 2274 = 100077 := by decide
            have := yearAt_mono (show 2274 ≤ yy + 1 by omega)
            rw [monthAt_first] at hN
            omega
        have HN := Lib.hid hN
        clear hl hE hN
        go_wp2_with (go_at_call 147; refine (HL.out _).mono ?_; rintro e w1 ⟨rfl, rfl⟩)
        go_round
        case rel => exact ⟨k - l, yy + 1, 1, rfl, rfl, rfl, by omega, by omega, by omega, by omega, by omega, by omega, HN⟩
        case measure => simp [intOf]; omega
    · have hd : DateIs n yy mm (k + 1) := ⟨y0, m0, m1, by omega, by omega, by have := HE.out; omega⟩
      obtain ⟨rfl, rfl, rfl⟩ := hd.one HH.out
      clear hl hd HE HH
      go_wp2_with (go_at_call 147; refine (HL.out _).mono ?_; rintro e w1 ⟨rfl, rfl⟩)
      go_returns
      exact ⟨rfl, rfl⟩

set_option maxRecDepth 100000 in
theorem snumber_any (y m d : Int) (w : World) (h0 : 2000 ≤ y) (h1 : y ≤ 2400) (m0 : 1 ≤ m) (m1 : m ≤ 12) (d0 : -1000000 ≤ d) (d1 : d ≤ 1000000) :
    Calls Tryd.prog 143 #[.int .i64 y, .int .i64 m, .int .i64 d] w fun e w' => e = .returned (.int .i64 (dnumOf y m d)) ∧ w = w' := by
  go_enter Tryd.func143, Tryd.ntmps143
  go_wp2
  go_loop [7, 8] (fun s7 s8 => ∃ (k z : Int), s7 = .int .i64 z ∧ s8 = .int .i64 k ∧ 2000 ≤ k ∧ k ≤ y ∧ Hid (z = d - 1 + yearAt k)) (fun _ s8 => (y - intOf s8).toNat)
  case atStart => exact ⟨2000, _, rfl, rfl, by omega, h0, Lib.hid (by rw [yearAt_first]; omega)⟩
  case round =>
    obtain ⟨k, z, rfl, rfl, k0, k1, HE⟩ := hrel
    have hb := yearAt_bd k0 (by omega)
    have hz : -1000001 ≤ z ∧ z ≤ 1146462 := by have := HE.out; omega
    clear hb
    by_cases c : k < y
    · cases hl : leapB k
      · have HN := Lib.hid (show z + 365 = d - 1 + yearAt (k + 1) by rw [yearAt_next]; unfold yearLen; rw [hl]; have := HE.out; simp; omega)
        have HL := Lib.hid (fun w => hl ▸ sleap_any k w (by omega))
        clear hl
        go_wp2_with (go_at_call 148; refine (HL.out _).mono ?_; rintro e w1 ⟨rfl, rfl⟩)
        go_round
        case rel => exact ⟨k + 1, _, rfl, by go_num, by omega, by omega, HN⟩
        case measure => simp [intOf]; omega
      · have HN := Lib.hid (show z + 365 + 1 = d - 1 + yearAt (k + 1) by rw [yearAt_next]; unfold yearLen; rw [hl]; have := HE.out; simp; omega)
        have HL := Lib.hid (fun w => hl ▸ sleap_any k w (by omega))
        clear hl
        go_wp2_with (go_at_call 148; refine (HL.out _).mono ?_; rintro e w1 ⟨rfl, rfl⟩)
        go_round
        case rel => exact ⟨k + 1, _, rfl, by go_num, by omega, by omega, HN⟩
        case measure => simp [intOf]; omega
    · obtain rfl : k = y := by omega
      go_wp2
      go_loop [7, 9] (fun s7 s9 => ∃ (j v : Int), s7 = .int .i64 v ∧ s9 = .int .i64 j ∧ 1 ≤ j ∧ j ≤ m ∧ Hid (v = z + monthAt k j)) (fun _ s9 => (m - intOf s9).toNat)
      case atStart => exact ⟨1, _, rfl, rfl, by omega, m0, Lib.hid (by rw [monthAt_first]; omega)⟩
      case round =>
        obtain ⟨j, v, rfl, rfl, j0, j1, HJ⟩ := hrel
        have hmb := monthAt_bd k j j0 (by omega)
        have hv : -1000001 ≤ v ∧ v ≤ 1147000 := by have := HJ.out; omega
        have hlb := monthLen_bd k j
        clear hmb
        by_cases c2 : j < m
        · have HL := Lib.hid (fun w => sdays_any k j w (by omega) j0 (by omega))
          have HN := Lib.hid (show v + monthLen k j = z + monthAt k (j + 1) by rw [monthAt_next k j j0 (by omega)]; have := HJ.out; omega)
          obtain ⟨l, hl⟩ : ∃ l, l = monthLen k j := ⟨_, rfl⟩
          rw [← hl] at HL hlb HN
          clear hl
          go_wp2_with (go_at_call 147; refine (HL.out _).mono ?_; rintro e w1 ⟨rfl, rfl⟩)
          go_round
          case rel => exact ⟨j + 1, _, rfl, by go_num, by omega, by omega, HN⟩
          case measure => simp [intOf]; omega
        · obtain rfl : j = m := by omega
          go_wp2
          go_ret
          exact ⟨ret_i (by have := HJ.out; have := HE.out; unfold dnumOf; omega), rfl⟩

/-- The number of a date, and whether it is one of the days'. -/
def findV (y m d : Int) : Int × Bool := if findB y m d = true then (dnumOf y m d, decide (dnumOf y m d ≤ 99999)) else (0, false)
theorem findB_of (y m d : Int) : findB y m d = (inB 2000 2273 [y] && inB 1 12 [m] && inB 1 (monthLen y m) [d]) := rfl
end Go.Proofs.YtagebpmciimcgabDoor
