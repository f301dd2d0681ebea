/- The program's calendar: the number of a date; months later; weekdays. -/
import Derived.Test.YtjjkbbcpihaphaaDoorCalK
namespace Go.Proofs.YtjjkbbcpihaphaaDoor
open Go.ChangeShapes Go.WideShapes Go.ChangeAt Go.RowKit Pm

theorem mdV_no {y m : Int} (h : (inB 2000 2273 [y] && inB 1 12 [m]) = false) : mdV y m = (0, 2) := by unfold mdV; rw [h]; rfl
theorem mdV_yes {y m : Int} (h : (inB 2000 2273 [y] && inB 1 12 [m]) = true) : mdV y m = (monthLen y m, 0) := by unfold mdV; rw [h]; rfl

theorem dayof_no1 (y m d : Int) (w : World) (hM : MonthsAt w) (h1 : (inB 2000 2273 [y] && inB 1 12 [m]) = false) :
    Calls Tryd.prog 14 #[.int .i64 y, .int .i64 m, .int .i64 d] w (Ret2 0 2 w) := by
  have HD := Lib.hid (show Calls Tryd.prog 17 #[.int .i64 y, .int .i64 m] w (Ret2 0 2 w) by
    have := monthdays_any y m w hM
    rwa [mdV_no h1] at this)
  clear h1 hM
  go_enter Tryd.func14, Tryd.ntmps14
  go_wp2_with (first
    | (go_at_call 17; refine HD.out.mono ?_; rintro e w1 ⟨rfl, hb⟩))
  go_ret2
  exact ⟨rfl, hb⟩
theorem dayof_no2 (y m d : Int) (w : World) (hM : MonthsAt w) (h1 : (inB 2000 2273 [y] && inB 1 12 [m]) = true) (h3 : inB 1 (monthLen y m) [d] = false) :
    Calls Tryd.prog 14 #[.int .i64 y, .int .i64 m, .int .i64 d] w (Ret2 0 2 w) := by
  have HD := monthdays_any y m w hM
  rw [mdV_yes h1] at HD
  obtain ⟨l, hl⟩ : ∃ l, l = monthLen y m := ⟨_, rfl⟩
  rw [← hl] at HD h3
  have HI := Lib.hid (fun w sv hs => h3 ▸ within_any 1 l sv [d] w hs)
  have HD := Lib.hid (show Calls Tryd.prog 17 #[.int .i64 y, .int .i64 m] w (Ret2 l 0 w) from HD)
  clear h1 hM h3 hl
  go_enter Tryd.func14, Tryd.ntmps14
  go_wp2_with (first
    | (go_at_call 17; refine HD.out.mono ?_; rintro e w1 ⟨rfl, hb⟩; have ac := hb; have H1 := ints_one w1 .i64 d 2; clear hb)
    | (go_at_call 38; refine (HI.out _ _ H1).mono ?_; rintro e w2 ⟨rfl, rfl⟩))
  go_ret2
  exact ⟨rfl, ac.alloc ac.size _⟩

set_option maxRecDepth 100000 in
set_option maxHeartbeats 2000000 in
theorem dayof_yes (y m d : Int) (w : World) (hM : MonthsAt w) (h1 : (inB 2000 2273 [y] && inB 1 12 [m]) = true) (h3 : inB 1 (monthLen y m) [d] = true) :
    Calls Tryd.prog 14 #[.int .i64 y, .int .i64 m, .int .i64 d] w (Ret2 (dayV y m d).1 (dayV y m d).2 w) := by
  have hym : (2000 ≤ y ∧ y ≤ 2273) ∧ 1 ≤ m ∧ m ≤ 12 := by simpa [inB] using h1
  obtain ⟨⟨y0, y1⟩, m0, m1⟩ := hym
  have hlb := monthLen_bd y m
  have hd : 1 ≤ d ∧ d ≤ monthLen y m := by simpa [inB] using h3
  obtain ⟨d0, d1⟩ := hd
  have hyb := yearAt_bd y0 (show y ≤ 2400 by omega)
  have HD := monthdays_any y m w hM
  rw [mdV_yes h1] at HD
  have hdv : dayV y m d = if dnumOf y m d ≤ 99999 then (dnumOf y m d, 0) else (0, 2) := by
    unfold dayV dayOk
    rw [show findB y m d = true by unfold findB; rw [h1, h3]; rfl]
    by_cases c : dnumOf y m d ≤ 99999
    · rw [if_pos c, if_pos (by simpa using c)]
    · rw [if_neg c, if_neg (by simpa using c)]
  have HDV := Lib.hid hdv
  obtain ⟨l, hl⟩ : ∃ l, l = monthLen y m := ⟨_, rfl⟩
  rw [← hl] at HD h3 d1 hlb
  have HI := Lib.hid (fun w sv hs => h3 ▸ within_any 1 l sv [d] w hs)
  have HD := Lib.hid (show Calls Tryd.prog 17 #[.int .i64 y, .int .i64 m] w (Ret2 l 0 w) from HD)
  have HF := Lib.hid (fun w => firstday_any y w y0 (by omega))
  have HL := Lib.hid (fun w k hM k0 k1 => lengthof_any y k w hM y0 y1 k0 k1)
  have HM := Lib.hid hM
  have HNUM := Lib.hid (show ∀ z, z = yearAt y + d - 1 + monthAt y m → z = dnumOf y m d from fun z hz => by rw [hz]; unfold dnumOf; omega)
  obtain ⟨ya, hya⟩ : ∃ ya, ya = yearAt y := ⟨_, rfl⟩
  rw [← hya] at HF hyb HNUM
  clear h1 hM h3 hl hya hdv
  go_enter Tryd.func14, Tryd.ntmps14
  go_wp2_with (first
    | (go_at_call 17; refine HD.out.mono ?_; rintro e w1 ⟨rfl, hb⟩; have ac := hb; have H1 := ints_one w1 .i64 d 2; clear hb)
    | (go_at_call 38; refine (HI.out _ _ H1).mono ?_; rintro e w2 ⟨rfl, hw2⟩; have ac2 := Lib.hid (show Below w.heap.size w w2 by rw [← hw2]; exact ac.alloc ac.size _); clear ac H1 hw2)
    | (go_at_call 36; refine (HF.out _).mono ?_; rintro e w3 ⟨rfl, rfl⟩))
  go_loopw [10, 34] (fun s10 s12 wr => ∃ (k : Nat) (z : Int), s10 = .int .i64 z ∧ s12 = .int .i64 k ∧ (k : Int) + 1 ≤ m ∧ Hid (z = ya + d - 1 + monthAt y (k + 1)) ∧ Hid (Below w.heap.size w wr)) (fun _ s12 _ => (m - intOf s12).toNat)
  case atStart => exact ⟨0, _, rfl, rfl, by omega, Lib.hid (by rw [show ((0 : Nat) : Int) + 1 = 1 by rfl, monthAt_first]; omega), ac2⟩
  case round =>
    obtain ⟨k, z, rfl, rfl, k1, HE, HB⟩ := hrel
    have hmb := monthAt_bd y (k + 1) (by omega) (by omega)
    have hkb := monthLen_bd y (k + 1)
    have hzb : 0 ≤ z ∧ z ≤ 200000 := by have := HE.out; omega
    clear hmb
    by_cases c : (k : Int) + 1 < m
    · have HLK := Lib.hid (fun w hM => HL.out w (k + 1) hM (by omega) (by omega))
      have HN := Lib.hid (show z + monthLen y (k + 1) = ya + d - 1 + monthAt y (((k + 1 : Nat) : Int) + 1) by
        rw [show ((k + 1 : Nat) : Int) + 1 = ((k : Int) + 1) + 1 by omega, monthAt_next y (k + 1) (by omega) (by omega)]; have := HE.out; omega)
      obtain ⟨q, hq⟩ : ∃ q, q = monthLen y (k + 1) := ⟨_, rfl⟩
      rw [← hq] at HLK hkb HN
      clear hq
      have hlt : (k : Int) < m - 1 := by omega
      go_wp2_with (first
        | (go_at_call 37; refine (HLK.out _ (HM.out.below HB.out)).mono ?_; rintro e w4 ⟨rfl, hb4⟩; have ac4 := Lib.hid (Below.next HB.out hb4); clear hb4))
      go_roundw
      case rel => exact ⟨k + 1, _, rfl, by go_num, by omega, HN, ac4⟩
      case measure => simp [intOf]; omega
    · have hk : (k : Int) + 1 = m := by omega
      have hnum : z = dnumOf y m d := HNUM.out z (by have := HE.out; rw [hk] at this; exact this)
      by_cases c2 : z ≤ 99999
      · have HV := Lib.hid (show dayV y m d = (z, 0) by rw [HDV.out, if_pos (by omega), ← hnum])
        have HY := Lib.hid (fun w => (inB_day hzb.1 c2) ▸ isday_any z w)
        have hge : m - 1 ≤ (k : Int) := by omega
        clear hnum hk
        go_wp2_with (first
          | (go_at_call 34; refine (HY.out _).mono ?_; rintro e w5 ⟨rfl, hb5⟩; have ac5 := Lib.hid (Below.next HB.out hb5); clear hb5))
        go_ret2
        exact ⟨retII (by rw [HV.out]) (by rw [HV.out]), ac5.out⟩
      · have HV := Lib.hid (show dayV y m d = (0, 2) by rw [HDV.out, if_neg (by omega)])
        have hno : inB 0 99999 [z] = false := by simp [inB]; omega
        have HY := Lib.hid (fun w => hno ▸ isday_any z w)
        clear hno
        have hge : m - 1 ≤ (k : Int) := by omega
        clear hnum hk
        go_wp2_with (first
          | (go_at_call 34; refine (HY.out _).mono ?_; rintro e w5 ⟨rfl, hb5⟩; have ac5 := Lib.hid (Below.next HB.out hb5); clear hb5))
        go_ret2
        exact ⟨retII (by rw [HV.out]) (by rw [HV.out]), ac5.out⟩
theorem dayof_any (y m d : Int) (w : World) (hM : MonthsAt w) :
    Calls Tryd.prog 14 #[.int .i64 y, .int .i64 m, .int .i64 d] w (Ret2 (dayV y m d).1 (dayV y m d).2 w) := by
  cases h1 : (inB 2000 2273 [y] && inB 1 12 [m])
  · rw [show dayV y m d = (0, 2) by unfold dayV dayOk findB; rw [h1]; rfl]; exact dayof_no1 y m d w hM h1
  · cases h3 : inB 1 (monthLen y m) [d]
    · rw [show dayV y m d = (0, 2) by unfold dayV dayOk findB; rw [h1, h3]; rfl]; exact dayof_no2 y m d w hM h1 h3
    · exact dayof_yes y m d w hM h1 h3

/-! ### Months later -/
theorem addmonths_no1 (n k : Int) (w : World) (h : inB 0 99999 [n] = false) :
    Calls Tryd.prog 20 #[.int .i64 n, .int .i64 k] w (Ret2 0 2 w) := by
  have HD := Lib.hid (dateof_no n w h)
  clear h
  go_enter Tryd.func20, Tryd.ntmps20
  go_wp2_with (first
    | (go_at_call 13; refine HD.out.mono ?_; rintro e w1 ⟨rfl, hb⟩))
  go_ret2
  exact ⟨rfl, hb⟩
theorem addmonths_no2 (n k y m d : Int) (w : World) (hM : MonthsAt w) (h : DateIs n y m d) (hn : n ≤ 99999) (hk : inB 0 1200 [k] = false) :
    Calls Tryd.prog 20 #[.int .i64 n, .int .i64 k] w (Ret2 0 2 w) := by
  have HD := Lib.hid (dateof_yes n y m d w hM h hn)
  have HI := Lib.hid (fun w sv hs => hk ▸ within_any 0 1200 sv [k] w hs)
  clear h hM hk
  go_enter Tryd.func20, Tryd.ntmps20
  go_wp2_with (first
    | (go_at_call 13; refine HD.out.mono ?_; rintro e w1 ⟨rfl, hb⟩; have ac := hb; have H1 := ints_one w1 .i64 k 2; clear hb)
    | (go_at_call 38; refine (HI.out _ _ H1).mono ?_; rintro e w2 ⟨rfl, rfl⟩))
  go_ret2
  exact ⟨rfl, ac.alloc ac.size _⟩

theorem later_shape {y m k : Int} : y + (m - 1 + k) / 12 = laterY y m k ∧ (m - 1 + k) % 12 + 1 = laterM y m k := by
  unfold laterY laterM; omega
theorem least_later (y m d : Int) : Pm.leastOf d [monthLen y m] = laterD y m d := by
  unfold Pm.leastOf Pm.leastOf laterD; split <;> split <;> omega

set_option maxRecDepth 100000 in
set_option maxHeartbeats 2000000 in
theorem addmonths_in (n k y m d : Int) (w : World) (hM : MonthsAt w) (h : DateIs n y m d) (hn : n ≤ 99999) (hk : inB 0 1200 [k] = true) :
    Calls Tryd.prog 20 #[.int .i64 n, .int .i64 k] w (Ret2 (addV y m d k).1 (addV y m d k).2 w) := by
  have hk2 : 0 ≤ k ∧ k ≤ 1200 := by simpa [inB] using hk
  obtain ⟨k0, k1⟩ := hk2
  have hy := h.year hn
  have HD := Lib.hid (dateof_yes n y m d w hM h hn)
  have HI := Lib.hid (fun w sv hs => hk ▸ within_any 0 1200 sv [k] w hs)
  have HM := Lib.hid hM
  obtain ⟨y0, m0, m1, d0, d1, hnn⟩ := h
  clear hnn
  obtain ⟨eY, eM⟩ := later_shape (y := y) (m := m) (k := k)
  have hd31 : d ≤ 31 := by have := monthLen_bd y m; omega
  have hmm : 1 ≤ laterM y m k ∧ laterM y m k ≤ 12 := by unfold laterM; omega
  have hYY : 2000 ≤ laterY y m k := by unfold laterY; omega
  have hAV : addV y m d k = dayW (laterY y m k) (laterM y m k) (laterD (laterY y m k) (laterM y m k) d) := rfl
  rw [← least_later] at hAV
  obtain ⟨Y, hY⟩ : ∃ Y, Y = laterY y m k := ⟨_, rfl⟩
  obtain ⟨Mo, hMo⟩ : ∃ Mo, Mo = laterM y m k := ⟨_, rfl⟩
  rw [← hY] at eY hYY hAV
  rw [← hMo] at eM hmm hAV
  obtain ⟨q0, q1⟩ := hmm
  clear hY hMo hM hk
  have HMD := Lib.hid (show ∀ w, MonthsAt w → Calls Tryd.prog 17 #[.int .i64 (y + (m - 1 + k) / 12), .int .i64 ((m - 1 + k) % 12 + 1)] w (Ret2 (mdV Y Mo).1 (mdV Y Mo).2 w) from fun w hM => by
    rw [eY, eM]; exact monthdays_any Y Mo w hM)
  have HDO := Lib.hid (show ∀ w x, MonthsAt w → Calls Tryd.prog 14 #[.int .i64 (y + (m - 1 + k) / 12), .int .i64 ((m - 1 + k) % 12 + 1), .int .i64 x] w (Ret2 (dayV Y Mo x).1 (dayV Y Mo x).2 w) from fun w x hM => by
    rw [eY, eM]; exact dayof_any Y Mo x w hM)
  have HAV := Lib.hid hAV
  have HE := Lib.hid (And.intro eY eM)
  clear eY eM hAV
  by_cases c : Y ≤ 2273
  · have hin : (inB 2000 2273 [Y] && inB 1 12 [Mo]) = true := by simp [inB]; omega
    have HMD2 := HMD.out
    rw [mdV_yes hin] at HMD2
    obtain ⟨l, hl⟩ : ∃ l, l = monthLen Y Mo := ⟨_, rfl⟩
    have HAV2 := HAV.out
    rw [← hl] at HMD2 HAV2
    have HMD3 := Lib.hid (show ∀ w, MonthsAt w → Calls Tryd.prog 17 #[.int .i64 (y + (m - 1 + k) / 12), .int .i64 ((m - 1 + k) % 12 + 1)] w (Ret2 l 0 w) from HMD2)
    obtain ⟨x, hx⟩ : ∃ x, x = Pm.leastOf d [l] := ⟨_, rfl⟩
    have HLS := Lib.hid (fun w sv hs => hx ▸ least_any d sv [l] w hs)
    rw [← hx] at HAV2
    clear hx hl HMD HMD2 hin
    cases hok : dayOk Y Mo x
    · have HR := Lib.hid (show addV y m d k = (0, 6) by rw [HAV2]; unfold dayW; rw [hok]; rfl)
      have HDD := Lib.hid (show ∀ w, MonthsAt w → Calls Tryd.prog 14 #[.int .i64 (y + (m - 1 + k) / 12), .int .i64 ((m - 1 + k) % 12 + 1), .int .i64 x] w (Ret2 0 2 w) from fun w hM => by
        have := HDO.out w x hM
        rwa [show dayV Y Mo x = (0, 2) by unfold dayV; rw [hok]; rfl] at this)
      clear HAV2 hok HDO
      rw [HR.out]
      go_enter Tryd.func20, Tryd.ntmps20
      go_wp2_with (first
        | (go_at_call 13; refine HD.out.mono ?_; rintro e w1 ⟨rfl, hb⟩; have ac := hb; have H1 := ints_one w1 .i64 k 2; clear hb)
        | (go_at_call 38; refine (HI.out _ _ H1).mono ?_; rintro e w2 ⟨rfl, hw2⟩; have ac2 := Lib.hid (show Below w.heap.size w w2 by rw [← hw2]; exact ac.alloc ac.size _); clear ac H1 hw2)
        | (go_at_call 17; refine (HMD3.out _ (HM.out.below ac2.out)).mono ?_; rintro e w3 ⟨rfl, hb⟩; have ac3 := Lib.hid (Below.next ac2.out hb); have H2 := ints_one w3 .i64 l 2; clear hb)
        | (go_at_call 42; refine (HLS.out _ _ H2).mono ?_; rintro e w4 ⟨rfl, hw4⟩; have ac4 := Lib.hid (show Below w.heap.size w w4 by rw [← hw4]; exact ac3.out.alloc ac3.out.size _); clear H2 hw4)
        | (go_at_call 14; refine (HDD.out _ (HM.out.below ac4.out)).mono ?_; rintro e w5 ⟨rfl, hb⟩; have ac5 := Lib.hid (Below.next ac4.out hb); clear hb))
      go_ret2
      exact ⟨rfl, ac5.out⟩
    · have HR := Lib.hid (show addV y m d k = (dnumOf Y Mo x, 0) by rw [HAV2]; unfold dayW; rw [hok]; rfl)
      have HDD := (show ∀ w, MonthsAt w → Calls Tryd.prog 14 #[.int .i64 (y + (m - 1 + k) / 12), .int .i64 ((m - 1 + k) % 12 + 1), .int .i64 x] w (Ret2 (dnumOf Y Mo x) 0 w) from fun w hM => by
        have := HDO.out w x hM
        rwa [show dayV Y Mo x = (dnumOf Y Mo x, 0) by unfold dayV; rw [hok]; rfl] at this)
      obtain ⟨z, hz⟩ : ∃ z, z = dnumOf Y Mo x := ⟨_, rfl⟩
      rw [← hz] at HR HDD
      have HDD := Lib.hid HDD
      clear HAV2 hok HDO hz
      rw [HR.out]
      go_enter Tryd.func20, Tryd.ntmps20
      go_wp2_with (first
        | (go_at_call 13; refine HD.out.mono ?_; rintro e w1 ⟨rfl, hb⟩; have ac := hb; have H1 := ints_one w1 .i64 k 2; clear hb)
        | (go_at_call 38; refine (HI.out _ _ H1).mono ?_; rintro e w2 ⟨rfl, hw2⟩; have ac2 := Lib.hid (show Below w.heap.size w w2 by rw [← hw2]; exact ac.alloc ac.size _); clear ac H1 hw2)
        | (go_at_call 17; refine (HMD3.out _ (HM.out.below ac2.out)).mono ?_; rintro e w3 ⟨rfl, hb⟩; have ac3 := Lib.hid (Below.next ac2.out hb); have H2 := ints_one w3 .i64 l 2; clear hb)
        | (go_at_call 42; refine (HLS.out _ _ H2).mono ?_; rintro e w4 ⟨rfl, hw4⟩; have ac4 := Lib.hid (show Below w.heap.size w w4 by rw [← hw4]; exact ac3.out.alloc ac3.out.size _); clear H2 hw4)
        | (go_at_call 14; refine (HDD.out _ (HM.out.below ac4.out)).mono ?_; rintro e w5 ⟨rfl, hb⟩; have ac5 := Lib.hid (Below.next ac4.out hb); clear hb))
      go_ret2
      exact ⟨rfl, ac5.out⟩
  · have hin : (inB 2000 2273 [Y] && inB 1 12 [Mo]) = false := by simp [inB]; omega
    have HR := Lib.hid (show addV y m d k = (0, 6) by rw [HAV.out]; unfold dayW dayOk findB; rw [hin]; rfl)
    have HMD3 := Lib.hid (show ∀ w, MonthsAt w → Calls Tryd.prog 17 #[.int .i64 (y + (m - 1 + k) / 12), .int .i64 ((m - 1 + k) % 12 + 1)] w (Ret2 0 2 w) from fun w hM => by
      have := HMD.out w hM
      rwa [mdV_no hin] at this)
    clear HMD hin
    rw [HR.out]
    go_enter Tryd.func20, Tryd.ntmps20
    go_wp2_with (first
      | (go_at_call 13; refine HD.out.mono ?_; rintro e w1 ⟨rfl, hb⟩; have ac := hb; have H1 := ints_one w1 .i64 k 2; clear hb)
      | (go_at_call 38; refine (HI.out _ _ H1).mono ?_; rintro e w2 ⟨rfl, hw2⟩; have ac2 := Lib.hid (show Below w.heap.size w w2 by rw [← hw2]; exact ac.alloc ac.size _); clear ac H1 hw2)
      | (go_at_call 17; refine (HMD3.out _ (HM.out.below ac2.out)).mono ?_; rintro e w3 ⟨rfl, hb⟩; have ac3 := Lib.hid (Below.next ac2.out hb); clear hb))
    go_ret2
    exact ⟨rfl, ac3.out⟩
end Go.Proofs.YtjjkbbcpihaphaaDoor
