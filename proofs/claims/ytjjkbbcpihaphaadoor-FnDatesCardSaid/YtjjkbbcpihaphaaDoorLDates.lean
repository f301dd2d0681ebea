/- The general law of dates. -/
import Derived.Test.YtjjkbbcpihaphaaDoorDtsW
import Derived.Test.YtjjkbbcpihaphaaDoorCalL
namespace Go.Proofs.YtjjkbbcpihaphaaDoor
open Go.ChangeShapes Go.WideShapes Go.ChangeAt Go.RowKit Pm

theorem dv_day {n y m d : Int} (h : DateIs n y m d) (hn : n ≤ 99999) : (dayV y m d).1 = n ∧ (dayV y m d).2 = 0 := by
  obtain ⟨e, k⟩ := h.num hn
  unfold dayV
  rw [if_pos k]
  exact ⟨e, rfl⟩
theorem month_step (y m : Int) (h0 : 1 ≤ m) (h1 : m ≤ 12) : monthAt (y + 1) m ≤ monthAt y m + 1 := by
  have hm : m = 1 ∨ m = 2 ∨ m = 3 ∨ m = 4 ∨ m = 5 ∨ m = 6 ∨ m = 7 ∨ m = 8 ∨ m = 9 ∨ m = 10 ∨ m = 11 ∨ m = 12 := by omega
  unfold monthAt
  cases leapB y <;> cases leapB (y + 1) <;> (rcases hm with rfl | rfl | rfl | rfl | rfl | rfl | rfl | rfl | rfl | rfl | rfl | rfl <;> decide)
theorem year_low {n y m d : Int} (h : DateIs n y m d) (hn : n ≤ 99534) : y ≤ 2272 := by
  by_cases h1 : y ≤ 2272
  · exact h1
  · have e : yearAt 2273 = 99712 := by decide
    have := yearAt_mono (show 2273 ≤ y by omega)
    have := h.inYear
    omega
/-- A year later. -/
theorem year_later {n y m d : Int} (h : DateIs n y m d) (hn : n ≤ 99534) :
    ∃ L t, (addV y m d 12).1 = L ∧ (addV y m d 12).2 = 0 ∧ DateIs L (y + 1) m t ∧ L ≤ 99999 ∧ (t = d ∨ (t ≠ d ∧ m = 2 ∧ d = 29 ∧ t = 28)) := by
  have hy := year_low h hn
  obtain ⟨h0, h1, h2, h3, h4, h5⟩ := h
  obtain ⟨e1, e2⟩ := months_year (y := y) h1 h2
  have f1 : laterY y m 12 = y + 1 := e1
  have f2 : laterM y m 12 = m := e2
  have ht := later_year h1 h2 h4
  obtain ⟨t0, t1⟩ := laterD_bd (y + 1) m d h3
  have hle : laterD (y + 1) m d ≤ d := by unfold laterD; split <;> omega
  have hn2 := yearAt_next y
  have hb := yearLen_bd y
  have hms := month_step y m h1 h2
  have hD : DateIs (dnumOf (y + 1) m (laterD (y + 1) m d)) (y + 1) m (laterD (y + 1) m d) := ⟨by omega, h1, h2, t0, t1, rfl⟩
  have hL : dnumOf (y + 1) m (laterD (y + 1) m d) ≤ 99999 := by unfold dnumOf; omega
  refine ⟨_, _, ?_, ?_, hD, hL, ?_⟩
  · unfold addV dayW; rw [f1, f2, if_pos (hD.num hL).2]
  · unfold addV dayW; rw [f1, f2, if_pos (hD.num hL).2]
  · omega
/-- The day of the year, and the next. -/
theorem year_days {n y m d : Int} (h : DateIs n y m d) :
    ∃ y' m' d', DateIs (n + 1) y' m' d' ∧ 1 ≤ n - yearAt y + 1 ∧ n - yearAt y + 1 ≤ 366 ∧ (n + 1 - yearAt y' + 1 = n - yearAt y + 1 + 1 ∨ (n + 1 - yearAt y' + 1 ≠ n - yearAt y + 1 + 1 ∧ n + 1 - yearAt y' + 1 = 1 ∧ 365 ≤ n - yearAt y + 1)) := by
  have hi := h.inYear
  have hb := yearLen_bd y
  have hx := yearAt_next y
  rcases h.next with ⟨_, k⟩ | ⟨_, _, k⟩ | ⟨e1, e2, k⟩
  · exact ⟨_, _, _, k, by omega, by omega, .inl (by omega)⟩
  · exact ⟨_, _, _, k, by omega, by omega, .inl (by omega)⟩
  · have hk := k.inYear
    have h5 := k.2.2.2.2.2
    rw [monthAt_first] at h5
    exact ⟨_, _, _, k, by omega, by omega, .inr ⟨by omega, by omega, by omega⟩⟩
theorem read_day {s : ByteArray} {v : Int × Bool} {n : Int} {y m d : Nat} (h : ReadIs s v) (hd : DateIs n y m d) (hn : n ≤ 99999) (hs : s = dateS y m d) : v = (n, true) :=
  h.one (.inl ⟨n, y, m, d, hd, hn, hs, rfl⟩)
theorem read_time {s : ByteArray} {v : Int × Bool} {t : Nat} (h : ClockIs s v) (ht : t ≤ 1439) (hs : s = clockS t) : v = ((t : Int), true) :=
  h.one (.inl ⟨t, ht, hs, rfl⟩)

set_option maxRecDepth 100000 in
set_option maxHeartbeats 2000000 in
theorem dates_law (a : Option Addr) (len cap : Nat) (zs : List Int) (w : World) (hA : ArgIn .u8 w (.slice a len cap) zs) (hlen : zs.length = len) (hz : BytesAre zs)
    (hL : laidMetH Tryd.prog Rows.fnDatesRow.laid w) (hsh : w.ShapedOpen Tryd.prog) :
    Calls Tryd.prog 3 #[.slice a len cap] w fun e w' => e = .returned (.bool true) ∧ Below w.heap.size w w' := by
  rw [MakeChecks.laidMetH_plain _ _ _ (by kernel_rfl)] at hL
  have HP := pow_of hL
  have HE : ErrsAt w := ⟨range_of hL.tail.tail.tail.tail, syn_of hL.tail.tail.tail.tail.tail⟩
  have HM := months_of hL.tail.tail.tail.tail.tail.tail
  have HN := len7_of hsh
  clear hL hsh
  by_cases hl : len ≤ 1048576
  · have A0 := wideV_bd (zs := zs) (k := 0) (n := 65536) (by omega)
    have B0 := wideV_bd (zs := zs) (k := 2) (n := 34000) (by omega)
    have c0 := wideV_bd (zs := zs) (k := 4) (n := 1440) (by omega)
    have W0 := fun w' (hb : Below w.heap.size w w') => r8wide_any w' (.slice a len cap) zs 0 65536 (hA.below hb) hz (by omega) (by omega) (by omega) (by omega)
    have W2 := fun w' (hb : Below w.heap.size w w') => r8wide_any w' (.slice a len cap) zs 2 34000 (hA.below hb) hz (by omega) (by omega) (by omega) (by omega)
    have W4 := fun w' (hb : Below w.heap.size w w') => r8wide_any w' (.slice a len cap) zs 4 1440 (hA.below hb) hz (by omega) (by omega) (by omega) (by omega)
    generalize wideV zs 0 65536 = A at A0 W0
    generalize wideV zs 2 34000 = B at B0 W2
    generalize wideV zs 4 1440 = c at c0 W4
    obtain ⟨c, rfl⟩ := Int.eq_ofNat_of_zero_le c0.1
    have hc : c ≤ 1439 := by omega
    have hn : A + B ≤ 99534 := by omega
    obtain ⟨y, m, d, hd⟩ := date_ex (show 0 ≤ A + B by omega)
    obtain ⟨y, rfl⟩ := Int.eq_ofNat_of_zero_le (show 0 ≤ y by have := hd.1; omega)
    obtain ⟨m, rfl⟩ := Int.eq_ofNat_of_zero_le (show 0 ≤ m by have := hd.2.1; omega)
    obtain ⟨d, rfl⟩ := Int.eq_ofNat_of_zero_le (show 0 ≤ d by have := hd.2.2.2.1; omega)
    have hn9 : A + B ≤ 99999 := by omega
    have hy := year_low hd hn
    have hu : inB 0 99999 [A + B] = true := by simp [inB]; omega
    have hu1 : inB 0 99999 [A + B + 1] = true := by simp [inB]; omega
    obtain ⟨y', m', d', hd', p0, p1, hq⟩ := year_days hd
    obtain ⟨L, t, eL, eL2, hdL, hL9, ht⟩ := year_later hd hn
    obtain ⟨v1, v2⟩ := dv_day hd hn9
    have hym : (inB 2000 2273 [(y : Int)] && inB 1 12 [(m : Int)]) = true := by
      have := hd.1; have := hd.2.1; have := hd.2.2.1
      simp [inB]; omega
    have hym2 := Bool.and_eq_true _ _ ▸ hym
    have es : (dateS y m d).size ≤ 1048576 := by
      have : (dateS y m d).size = 10 := rfl
      omega
    have ec : (clockS c).size ≤ 1048576 := by
      have : (clockS c).size = 5 := rfl
      omega
    obtain ⟨rv, hrv, HR⟩ := readdate_ex (dateS y m d) es
    obtain rfl := read_day hrv hd hn9 rfl
    obtain ⟨cv, hcv, HC⟩ := readclock_ex (clockS c) ec
    obtain rfl := read_time hcv hc rfl
    have hlp : isLeapB y = leapB y := by
      unfold isLeapB
      rw [hym2.1]; rfl
    have h1 := hd.1
    have h3 := hd.2.2.2.1
    have h4 := hd.2.2.2.2.1
    exact dates_walk a len cap _ rfl hl A B y m d (monthLen y m) ((A + B + 5) % 7) ((A + B + 1 + 5) % 7) (A + B - yearAt y + 1) (A + B + 1 - yearAt y' + 1) L t c (dateS y m d) (clockS c) (leapB y) w
      A0.1 A0.2 B0.1 B0.2 h1 hy h3 h4 (by omega) (by omega) (by omega) p0 p1 hq ht
      (Lib.hid W0) (Lib.hid W2)
      (Lib.hid fun w' hb => dateof_yes _ _ _ _ w' (HM.below hb) hd hn9)
      (Lib.hid fun w' hb => by have := dayof_any y m d w' (HM.below hb); rw [v1, v2] at this; exact this)
      (Lib.hid fun w' hb => datetext_yes _ y m d w' (HM.below hb) (HP.below hb) hd hn9)
      (Lib.hid fun w' hb => HR w' (HN.below hb) (HP.below hb) (HE.below hb) (HM.below hb))
      (Lib.hid fun w' hb => monthdays_yes y m w' (HM.below hb) hym2.1 hym2.2)
      (Lib.hid fun w' _ => weekday_yes _ w' hu)
      (Lib.hid fun w' _ => weekday_yes _ w' hu1)
      (Lib.hid fun w' _ => dayofyear_yes _ y m d w' hd hn9)
      (Lib.hid fun w' _ => dayofyear_yes _ y' m' d' w' hd' (by omega))
      (Lib.hid fun w' hb => by have := addmonths_in (A + B) 12 y m d w' (HM.below hb) hd hn9 (by decide); rw [eL, eL2] at this; exact this)
      (Lib.hid W4)
      (Lib.hid fun w' hb => clocktext_yes c w' (HP.below hb) hc)
      (Lib.hid fun w' hb => HC w' (HN.below hb) (HP.below hb) (HE.below hb))
      (Lib.hid fun w' hb => dateof_yes _ _ _ _ w' (HM.below hb) hdL hL9)
      (Lib.hid fun w' _ => by have := isleap_any y w'; rw [hlp] at this; exact this)
      (Lib.hid fun w' _ => r8leap_any y w' (by omega))
  · have hl2 : (1048576 : Int) < (len : Int) := by omega
    clear hl
    go_enter Tryd.func3, Tryd.ntmps3
    go_wp2
    go_ret
    exact ⟨rfl, Below.refl _ _⟩
end Go.Proofs.YtjjkbbcpihaphaaDoor
