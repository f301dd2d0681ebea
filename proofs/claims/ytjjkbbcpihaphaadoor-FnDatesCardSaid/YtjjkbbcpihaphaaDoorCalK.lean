/- The program's calendar: the date of a day, the day of a date, the day of the year. -/
import Derived.Test.YtjjkbbcpihaphaaDoorCalJ
namespace Go.Proofs.YtjjkbbcpihaphaaDoor
open Go.ChangeShapes Go.WideShapes Go.ChangeAt Go.RowKit Pm

set_option maxRecDepth 100000 in
theorem dateof_yes (n y m d : Int) (w : World) (hM : MonthsAt w) (h : DateIs n y m d) (hn : n ≤ 99999) :
    Calls Tryd.prog 13 #[.int .i64 n] w (Ret4 y m d 0 w) := by
  have h0 := h.1
  have hy := h.year hn
  have hn0 := h.nn
  have HD := Lib.hid (fun w => (inB_day hn0 hn) ▸ isday_any n w)
  have HY := Lib.hid (fun w => yearof_any n y m d w h hn)
  have HF := Lib.hid (fun w => firstday_any y w h0 (by omega))
  have HL := Lib.hid (fun w k hM k0 k1 => lengthof_any y k w hM h0 hy k0 k1)
  have hb := yearAt_bd h0 (show y ≤ 2400 by omega)
  obtain ⟨_, m0, m1, d0, d1, hnum⟩ := h
  have hmb := monthAt_bd y m m0 m1
  have hlb := monthLen_bd y m
  obtain ⟨ya, hya⟩ : ∃ ya, ya = yearAt y := ⟨_, rfl⟩
  rw [← hya] at HF hb hnum
  have HNUM := Lib.hid hnum
  have HM := Lib.hid hM
  have HX := Lib.hid (show ∀ k, 1 ≤ k → k < m → monthAt y k + monthLen y k ≤ monthAt y m from fun k k0 k1 => monthAt_mono k0 k1 (by omega))
  clear hya hnum hM
  have hd0 : n - ya + 1 = monthAt y m + d := by have := HNUM.out; omega
  have HD0 := Lib.hid hd0
  clear hd0
  go_enter Tryd.func13, Tryd.ntmps13
  go_wp2_with (first
    | (go_at_call 34; refine (HD.out _).mono ?_; rintro e w1 ⟨rfl, hb1⟩; have ac := Lib.hid hb1; clear hb1)
    | (go_at_call 35; refine (HY.out _).mono ?_; rintro e w2 ⟨rfl, hb2⟩; have ac2 := Lib.hid (Below.next ac.out hb2); clear hb2)
    | (go_at_call 36; refine (HF.out _).mono ?_; rintro e w3 ⟨rfl, rfl⟩))
  go_loopw [7, 8] (fun s7 s8 wr => ∃ (k date : Int), s7 = .int .i64 k ∧ s8 = .int .i64 date ∧ 1 ≤ k ∧ k ≤ m ∧ Hid (date + monthAt y k = monthAt y m + d) ∧ Hid (Below w.heap.size w wr)) (fun s7 _ _ => (12 - intOf s7).toNat)
  case atStart => exact ⟨1, _, rfl, rfl, by omega, m0, Lib.hid (by rw [monthAt_first, HD0.out]; omega), ac2⟩
  case round =>
    obtain ⟨k, date, rfl, rfl, k0, k1, HE, HB⟩ := hrel
    have hkb := monthLen_bd y k
    have hkm := monthAt_bd y k k0 (by omega)
    have hdb : 1 ≤ date ∧ date ≤ 400 := by
      have := HE.out
      by_cases c : k < m
      · have := HX.out k k0 c; omega
      · obtain rfl : k = m := by omega
        omega
    have HLK := Lib.hid (fun w hM => HL.out w k hM k0 (by omega))
    obtain ⟨l, hl⟩ : ∃ l, l = monthLen y k := ⟨_, rfl⟩
    rw [← hl] at HLK hkb
    by_cases c : k < m
    · have hlt : l < date := by have := HX.out k k0 c; have := HE.out; omega
      have HN := Lib.hid (show date - l + monthAt y (k + 1) = monthAt y m + d by rw [monthAt_next y k k0 (by omega), ← hl]; have := HE.out; omega)
      clear hl hkm
      go_wp2_with (first
        | (go_at_call 37; refine (HLK.out _ (HM.out.below (by first | exact HB.out | exact ac4.out))).mono ?_; rintro e w4 ⟨rfl, hb4⟩; (first | have ac5 := Lib.hid (Below.next ac4.out hb4) | have ac4 := Lib.hid (Below.next HB.out hb4)); clear hb4))
      go_roundw
      case rel => exact ⟨k + 1, _, by go_num, rfl, by omega, by omega, HN, ac5⟩
      case measure => simp [intOf]; omega
    · obtain rfl : k = m := by omega
      have he : date = d := by have := HE.out; omega
      subst he
      have hle : date ≤ l := by omega
      clear hl hkm HE
      go_wp2_with (first
        | (go_at_call 37; refine (HLK.out _ (HM.out.below HB.out)).mono ?_; rintro e w4 ⟨rfl, hb4⟩; have ac4 := Lib.hid (Below.next HB.out hb4); clear hb4))
      go_returns
      exact ⟨rfl, ac4.out⟩

theorem dateof_no (n : Int) (w : World) (h : inB 0 99999 [n] = false) :
    Calls Tryd.prog 13 #[.int .i64 n] w (Ret4 0 0 0 2 w) := by
  have HD := Lib.hid (fun w => h ▸ isday_any n w)
  clear h
  go_enter Tryd.func13, Tryd.ntmps13
  go_wp2_with (first
    | (go_at_call 34; refine (HD.out _).mono ?_; rintro e w1 ⟨rfl, hb1⟩; have ac := Lib.hid hb1; clear hb1))
  go_returns
  exact ⟨rfl, ac.out⟩

theorem monthdays_yes (y m : Int) (w : World) (hM : MonthsAt w) (h1 : inB 2000 2273 [y] = true) (h2 : inB 1 12 [m] = true) :
    Calls Tryd.prog 17 #[.int .i64 y, .int .i64 m] w (Ret2 (monthLen y m) 0 w) := by
  have y0 : 2000 ≤ y ∧ y ≤ 2273 := by simpa [inB] using h1
  have m0 : 1 ≤ m ∧ m ≤ 12 := by simpa [inB] using h2
  have HY := Lib.hid (fun w => h1 ▸ isyear_any y w)
  have HI := Lib.hid (fun w sv hs => h2 ▸ within_any 1 12 sv [m] w hs)
  have HL := Lib.hid (fun w hM => lengthof_any y m w hM y0.1 y0.2 m0.1 m0.2)
  have HM := Lib.hid hM
  obtain ⟨l, hl⟩ : ∃ l, l = monthLen y m := ⟨_, rfl⟩
  rw [← hl] at HL ⊢
  clear h1 h2 y0 m0 hM hl
  go_enter Tryd.func17, Tryd.ntmps17
  go_wp2_with (first
    | (go_at_call 41; refine (HY.out _).mono ?_; rintro e w1 ⟨rfl, hb⟩; have ac := hb; have H1 := ints_one w1 .i64 m 2; clear hb)
    | (go_at_call 38; refine (HI.out _ _ H1).mono ?_; rintro e w2 ⟨rfl, hw2⟩; have ac2 := Lib.hid (show Below w.heap.size w w2 by rw [← hw2]; exact ac.alloc ac.size _); clear ac H1 hw2)
    | (go_at_call 37; refine (HL.out _ (HM.out.below ac2.out)).mono ?_; rintro e w3 ⟨rfl, hb⟩; have ac3 := Below.next ac2.out hb; clear hb))
  go_ret2
  exact ⟨rfl, ac3⟩

theorem monthdays_no1 (y m : Int) (w : World) (h1 : inB 2000 2273 [y] = false) :
    Calls Tryd.prog 17 #[.int .i64 y, .int .i64 m] w (Ret2 0 2 w) := by
  have HY := Lib.hid (fun w => h1 ▸ isyear_any y w)
  clear h1
  go_enter Tryd.func17, Tryd.ntmps17
  go_wp2_with (first
    | (go_at_call 41; refine (HY.out _).mono ?_; rintro e w1 ⟨rfl, hb⟩))
  go_ret2
  exact ⟨rfl, hb⟩
theorem monthdays_no2 (y m : Int) (w : World) (h1 : inB 2000 2273 [y] = true) (h2 : inB 1 12 [m] = false) :
    Calls Tryd.prog 17 #[.int .i64 y, .int .i64 m] w (Ret2 0 2 w) := by
  have HY := Lib.hid (fun w => h1 ▸ isyear_any y w)
  have HI := Lib.hid (fun w sv hs => h2 ▸ within_any 1 12 sv [m] w hs)
  clear h1 h2
  go_enter Tryd.func17, Tryd.ntmps17
  go_wp2_with (first
    | (go_at_call 41; refine (HY.out _).mono ?_; rintro e w1 ⟨rfl, hb⟩; have ac := hb; have H1 := ints_one w1 .i64 m 2; clear hb)
    | (go_at_call 38; refine (HI.out _ _ H1).mono ?_; rintro e w2 ⟨rfl, rfl⟩))
  go_ret2
  exact ⟨rfl, ac.alloc ac.size _⟩
theorem monthdays_any (y m : Int) (w : World) (hM : MonthsAt w) :
    Calls Tryd.prog 17 #[.int .i64 y, .int .i64 m] w (Ret2 (mdV y m).1 (mdV y m).2 w) := by
  cases h1 : inB 2000 2273 [y]
  · rw [show mdV y m = (0, 2) by unfold mdV; rw [h1]; rfl]; exact monthdays_no1 y m w h1
  · cases h2 : inB 1 12 [m]
    · rw [show mdV y m = (0, 2) by unfold mdV; rw [h1, h2]; rfl]; exact monthdays_no2 y m w h1 h2
    · rw [show mdV y m = (monthLen y m, 0) by unfold mdV; rw [h1, h2]; rfl]; exact monthdays_yes y m w hM h1 h2

end Go.Proofs.YtjjkbbcpihaphaaDoor
