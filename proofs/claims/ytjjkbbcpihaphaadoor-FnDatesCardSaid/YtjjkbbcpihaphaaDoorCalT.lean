/- The model's answers on dates. -/
import Derived.Test.YtjjkbbcpihaphaaDoorCalS
namespace Go.Proofs.YtjjkbbcpihaphaaDoor
open Go.ChangeShapes Go.WideShapes Go.ChangeAt Go.RowKit Pm

theorem sdateof_yes (n y m d : Int) (w : World) (h : DateIs n y m d) (hn : n ≤ 99999) :
    Calls Tryd.prog 25 #[.int .i64 n] w (Same4 y m d 0 w) := by
  have hin : inB 0 99999 [n] = true := by have := h.nn; simp [inB]; omega
  have HD := Lib.hid (fun w => hin ▸ sday_any n w)
  clear hin
  have HT := Lib.hid (fun w => sdate_any n y m d w h hn)
  clear h hn
  go_enter Tryd.func25, Tryd.ntmps25
  go_wp2_with (first
    | (go_at_call 43; refine (HD.out _).mono ?_; rintro e w1 ⟨rfl, rfl⟩)
    | (go_at_call 44; refine (HT.out _).mono ?_; rintro e w1 ⟨rfl, rfl⟩))
  go_returns
  exact ⟨rfl, rfl⟩
theorem sdateof_no (n : Int) (w : World) (h : inB 0 99999 [n] = false) :
    Calls Tryd.prog 25 #[.int .i64 n] w (Same4 0 0 0 2 w) := by
  have HD := Lib.hid (fun w => h ▸ sday_any n w)
  clear h
  go_enter Tryd.func25, Tryd.ntmps25
  go_wp2_with (first
    | (go_at_call 43; refine (HD.out _).mono ?_; rintro e w1 ⟨rfl, rfl⟩))
  go_returns
  exact ⟨rfl, rfl⟩

theorem smonthdays_any (y m : Int) (w : World) :
    Calls Tryd.prog 27 #[.int .i64 y, .int .i64 m] w (Same2 (mdV y m).1 (mdV y m).2 w) := by
  cases h1 : inB 2000 2273 [y]
  · rw [show mdV y m = (0, 2) by unfold mdV; rw [h1]; rfl]
    have HY := Lib.hid (fun w => h1 ▸ syear_any y w)
    clear h1
    go_enter Tryd.func27, Tryd.ntmps27
    go_wp2_with (first
      | (go_at_call 46; refine (HY.out _).mono ?_; rintro e w1 ⟨rfl, rfl⟩))
    go_ret2
    exact ⟨rfl, rfl⟩
  · have HY := Lib.hid (fun w => h1 ▸ syear_any y w)
    cases h2 : inB 1 12 [m]
    · rw [show mdV y m = (0, 2) by unfold mdV; rw [h1, h2]; rfl]
      have HM := Lib.hid (show ∀ w, Calls Tryd.prog 47 #[.int .i64 m, .int .i64 1, .int .i64 12] w _ from fun w => h2 ▸ in_any m 1 12 w)
      clear h1 h2
      go_enter Tryd.func27, Tryd.ntmps27
      go_wp2_with (first
        | (go_at_call 46; refine (HY.out _).mono ?_; rintro e w1 ⟨rfl, rfl⟩)
        | (go_at_call 47; refine (HM.out _).mono ?_; rintro e w1 ⟨rfl, rfl⟩))
      go_ret2
      exact ⟨rfl, rfl⟩
    · rw [show mdV y m = (monthLen y m, 0) by unfold mdV; rw [h1, h2]; rfl]
      have hy : 2000 ≤ y ∧ y ≤ 2273 := by simpa [inB] using h1
      have hm : 1 ≤ m ∧ m ≤ 12 := by simpa [inB] using h2
      have HM := Lib.hid (show ∀ w, Calls Tryd.prog 47 #[.int .i64 m, .int .i64 1, .int .i64 12] w _ from fun w => h2 ▸ in_any m 1 12 w)
      have HL := Lib.hid (fun w => sdays_any y m w (by omega) hm.1 hm.2)
      obtain ⟨l, hl⟩ : ∃ l, l = monthLen y m := ⟨_, rfl⟩
      rw [← hl] at HL ⊢
      clear h1 h2 hy hm hl
      go_enter Tryd.func27, Tryd.ntmps27
      go_wp2_with (first
        | (go_at_call 46; refine (HY.out _).mono ?_; rintro e w1 ⟨rfl, rfl⟩)
        | (go_at_call 47; refine (HM.out _).mono ?_; rintro e w1 ⟨rfl, rfl⟩)
        | (go_at_call 48; refine (HL.out _).mono ?_; rintro e w1 ⟨rfl, rfl⟩))
      go_ret2
      exact ⟨rfl, rfl⟩

theorem sdayof_any (y m d : Int) (w : World) :
    Calls Tryd.prog 26 #[.int .i64 y, .int .i64 m, .int .i64 d] w (Same2 (dayV y m d).1 (dayV y m d).2 w) := by
  have HF := sfind_any y m d w
  cases h : dayOk y m d
  · have HF2 := Lib.hid (show ∃ z, Calls Tryd.prog 45 #[.int .i64 y, .int .i64 m, .int .i64 d] w (SameIB z false w) by
      refine ⟨(findV y m d).1, ?_⟩
      have e : (findV y m d).2 = false := by
        unfold findV
        unfold dayOk at h
        cases hf : findB y m d
        · rfl
        · rw [hf] at h; simpa using h
      rwa [e] at HF)
    rw [show dayV y m d = (0, 2) by unfold dayV; rw [h]; rfl]
    clear h HF
    obtain ⟨z, HZ⟩ := HF2.out
    have HZ := Lib.hid HZ
    clear HF2
    go_enter Tryd.func26, Tryd.ntmps26
    go_wp2_with (first
      | (go_at_call 45; refine HZ.out.mono ?_; rintro e w1 ⟨rfl, rfl⟩))
    go_ret2
    exact ⟨rfl, rfl⟩
  · have HF2 : Calls Tryd.prog 45 #[.int .i64 y, .int .i64 m, .int .i64 d] w (SameIB (dnumOf y m d) true w) := by
      have e : findV y m d = (dnumOf y m d, true) := by
        unfold findV
        unfold dayOk at h
        cases hf : findB y m d
        · rw [hf] at h; simp at h
        · rw [hf] at h; simp at h; simp [h]
      rwa [e] at HF
    rw [show dayV y m d = (dnumOf y m d, 0) by unfold dayV; rw [h]; rfl]
    obtain ⟨z, hz⟩ : ∃ z, z = dnumOf y m d := ⟨_, rfl⟩
    rw [← hz] at HF2 ⊢
    have HZ := Lib.hid HF2
    clear h HF HF2 hz
    go_enter Tryd.func26, Tryd.ntmps26
    go_wp2_with (first
      | (go_at_call 45; refine HZ.out.mono ?_; rintro e w1 ⟨rfl, rfl⟩))
    go_ret2
    exact ⟨rfl, rfl⟩



/-! ### Months later -/
theorem saddmonths_no1 (n k : Int) (w : World) (h : inB 0 99999 [n] = false) :
    Calls Tryd.prog 28 #[.int .i64 n, .int .i64 k] w (Same2 0 2 w) := by
  have HD := Lib.hid (fun w => h ▸ sday_any n w)
  clear h
  go_enter Tryd.func28, Tryd.ntmps28
  go_wp2_with (first
    | (go_at_call 43; refine (HD.out _).mono ?_; rintro e w1 ⟨rfl, rfl⟩))
  go_ret2
  exact ⟨rfl, rfl⟩
theorem saddmonths_no2 (n k : Int) (w : World) (h : inB 0 99999 [n] = true) (hk : inB 0 1200 [k] = false) :
    Calls Tryd.prog 28 #[.int .i64 n, .int .i64 k] w (Same2 0 2 w) := by
  have HD := Lib.hid (fun w => h ▸ sday_any n w)
  have HK := Lib.hid (fun w => hk ▸ in_any k 0 1200 w)
  clear h hk
  go_enter Tryd.func28, Tryd.ntmps28
  go_wp2_with (first
    | (go_at_call 43; refine (HD.out _).mono ?_; rintro e w1 ⟨rfl, rfl⟩)
    | (go_at_call 47; refine (HK.out _).mono ?_; rintro e w1 ⟨rfl, rfl⟩))
  go_ret2
  exact ⟨rfl, rfl⟩

/-- The lesser of two. -/
def minI (a b : Int) : Int := if a < b then a else b
theorem smin_any (a b : Int) (w : World) :
    Calls Tryd.prog 49 #[.int .i64 a, .int .i64 b] w fun e w' => e = .returned (.int .i64 (minI a b)) ∧ w = w' := by
  by_cases h : a < b
  · have HV := Lib.hid (show minI a b = a by unfold minI; rw [if_pos h])
    go_enter Tryd.func49, Tryd.ntmps49
    go_wp2
    go_ret
    exact ⟨ret_i HV.out.symm, rfl⟩
  · have HV := Lib.hid (show minI a b = b by unfold minI; rw [if_neg h])
    go_enter Tryd.func49, Tryd.ntmps49
    go_wp2
    go_ret
    exact ⟨ret_i HV.out.symm, rfl⟩

set_option maxRecDepth 100000 in
set_option maxHeartbeats 2000000 in
theorem saddmonths_in (n k y m d : Int) (w : World) (h : DateIs n y m d) (hn : n ≤ 99999) (hk : inB 0 1200 [k] = true) :
    Calls Tryd.prog 28 #[.int .i64 n, .int .i64 k] w (Same2 (addV y m d k).1 (addV y m d k).2 w) := by
  have hk2 : 0 ≤ k ∧ k ≤ 1200 := by simpa [inB] using hk
  obtain ⟨k0, k1⟩ := hk2
  have hy := h.year hn
  have hn0 := h.nn
  have hin : inB 0 99999 [n] = true := by simp [inB]; omega
  have HD := Lib.hid (fun w => hin ▸ sday_any n w)
  clear hin
  have HK := Lib.hid (fun w => hk ▸ in_any k 0 1200 w)
  have HT := Lib.hid (fun w => sdate_any n y m d w h hn)
  obtain ⟨y0, m0, m1, d0, d1, hnn⟩ := h
  clear hnn
  have hd31 : d ≤ 31 := by have := monthLen_bd y m; omega
  have hmm : 1 ≤ laterM y m k ∧ laterM y m k ≤ 12 := by unfold laterM; omega
  have hYY : 2000 ≤ laterY y m k := by unfold laterY; omega
  have eY : (12 * y + m - 1 + k) / 12 = laterY y m k := rfl
  have eM : (12 * y + m - 1 + k) % 12 + 1 = laterM y m k := rfl
  have hAV : addV y m d k = dayW (laterY y m k) (laterM y m k) (laterD (laterY y m k) (laterM y m k) d) := rfl
  obtain ⟨Y, hY⟩ : ∃ Y, Y = laterY y m k := ⟨_, rfl⟩
  obtain ⟨Mo, hMo⟩ : ∃ Mo, Mo = laterM y m k := ⟨_, rfl⟩
  rw [← hY] at eY hYY hAV
  rw [← hMo] at eM hmm hAV
  obtain ⟨q0, q1⟩ := hmm
  have HL := Lib.hid (show ∀ w, Calls Tryd.prog 48 #[.int .i64 ((12 * y + m - 1 + k) / 12), .int .i64 ((12 * y + m - 1 + k) % 12 + 1)] w _ from fun w => by
    rw [eY, eM]; exact sdays_any Y Mo w (by omega) q0 q1)
  have HI := Lib.hid (fun w => smin_any d (monthLen Y Mo) w)
  rw [show minI d (monthLen Y Mo) = laterD Y Mo d from rfl] at HI
  obtain ⟨x, hx⟩ : ∃ x, x = laterD Y Mo d := ⟨_, rfl⟩
  rw [← hx] at HI hAV
  have HF := (show ∀ w, Calls Tryd.prog 45 #[.int .i64 ((12 * y + m - 1 + k) / 12), .int .i64 ((12 * y + m - 1 + k) % 12 + 1), .int .i64 x] w (SameIB (findV Y Mo x).1 (findV Y Mo x).2 w) from fun w => by
    rw [eY, eM]; exact sfind_any Y Mo x w)
  have HAV := Lib.hid hAV
  clear eY eM hAV hY hMo hx hk
  obtain ⟨l, hl⟩ : ∃ l, l = monthLen Y Mo := ⟨_, rfl⟩
  rw [← hl] at HL HI
  clear hl
  cases hok : dayOk Y Mo x
  · have e : (findV Y Mo x).2 = false := by
      unfold findV
      unfold dayOk at hok
      cases hf : findB Y Mo x
      · rfl
      · rw [hf] at hok; simpa using hok
    rw [e] at HF
    obtain ⟨z, hz⟩ : ∃ z, z = (findV Y Mo x).1 := ⟨_, rfl⟩
    rw [← hz] at HF
    have HR := Lib.hid (show addV y m d k = (0, 6) by rw [HAV.out]; unfold dayW; rw [hok]; rfl)
    have HF := Lib.hid HF
    clear hz e hok
    rw [HR.out]
    go_enter Tryd.func28, Tryd.ntmps28
    go_wp2_with (first
      | (go_at_call 43; refine (HD.out _).mono ?_; rintro e w1 ⟨rfl, rfl⟩)
      | (go_at_call 47; refine (HK.out _).mono ?_; rintro e w1 ⟨rfl, rfl⟩)
      | (go_at_call 44; refine (HT.out _).mono ?_; rintro e w1 ⟨rfl, rfl⟩)
      | (go_at_call 48; refine (HL.out _).mono ?_; rintro e w1 ⟨rfl, rfl⟩)
      | (go_at_call 49; refine (HI.out _).mono ?_; rintro e w1 ⟨rfl, rfl⟩)
      | (go_at_call 45; refine (HF.out _).mono ?_; rintro e w1 ⟨rfl, rfl⟩))
    go_ret2
    exact ⟨rfl, rfl⟩
  · have e : findV Y Mo x = (dnumOf Y Mo x, true) := by
      unfold findV
      unfold dayOk at hok
      cases hf : findB Y Mo x
      · rw [hf] at hok; simp at hok
      · rw [hf] at hok; simp at hok; simp [hok]
    rw [e] at HF
    have HR := (show addV y m d k = (dnumOf Y Mo x, 0) by rw [HAV.out]; unfold dayW; rw [hok]; rfl)
    obtain ⟨z, hz⟩ : ∃ z, z = dnumOf Y Mo x := ⟨_, rfl⟩
    rw [← hz] at HF HR
    have HR := Lib.hid HR
    have HF := Lib.hid HF
    clear hz e hok
    rw [HR.out]
    go_enter Tryd.func28, Tryd.ntmps28
    go_wp2_with (first
      | (go_at_call 43; refine (HD.out _).mono ?_; rintro e w1 ⟨rfl, rfl⟩)
      | (go_at_call 47; refine (HK.out _).mono ?_; rintro e w1 ⟨rfl, rfl⟩)
      | (go_at_call 44; refine (HT.out _).mono ?_; rintro e w1 ⟨rfl, rfl⟩)
      | (go_at_call 48; refine (HL.out _).mono ?_; rintro e w1 ⟨rfl, rfl⟩)
      | (go_at_call 49; refine (HI.out _).mono ?_; rintro e w1 ⟨rfl, rfl⟩)
      | (go_at_call 45; refine (HF.out _).mono ?_; rintro e w1 ⟨rfl, rfl⟩))
    go_ret2
    exact ⟨rfl, rfl⟩
end Go.Proofs.YtjjkbbcpihaphaaDoor
