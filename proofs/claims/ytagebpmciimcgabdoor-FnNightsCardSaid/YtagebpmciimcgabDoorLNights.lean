/- The general law of nights. -/
import Derived.Test.YtagebpmciimcgabDoorNtsW
import Derived.Test.YtagebpmciimcgabDoorLDarkSum
namespace Go.Proofs.YtagebpmciimcgabDoor
open Go.ChangeShapes Go.WideShapes Go.ChangeAt Go.RowKit Pm

theorem sum_le {f : Nat → Int} {M : Int} (k : Nat) (h : ∀ j, j < k → f j ≤ M) : sumTo f k ≤ (k : Int) * M := by
  induction k with
  | zero => simp [sum_zero]
  | succ k ih =>
    rw [sum_next]
    have h1 := ih (fun j hj => h j (by omega))
    have h2 := h k (by omega)
    have h3 : (((k + 1 : Nat) : Int)) * M = (k : Int) * M + M := by
      rw [show ((k + 1 : Nat) : Int) = (k : Int) + 1 by omega, Int.add_mul, Int.one_mul]
    omega
theorem one_le_sum {f : Nat → Int} (hf : ∀ i, 0 ≤ f i ∧ f i ≤ 1440) (k i : Nat) (hi : i < k) : f i ≤ sumTo f k := by
  induction k with
  | zero => omega
  | succ k ih =>
    rw [sum_next]
    have h0 := sum_bd hf k
    have h1 := hf k
    by_cases c : i < k
    · have := ih c; omega
    · obtain rfl : i = k := by omega
      omega
theorem dark_at (lat D v : Int) (w : World) (hS : SinesAt w) (h : askB lat D = true) (hv : DarkIs lat D v) :
    Calls Tryd.prog 21 #[.int .i64 lat, .int .i64 D] w (Ret2 v 0 w) := by
  obtain ⟨n, r, h1, h2, rfl⟩ := hv
  exact dark_in lat D n r w hS h h1 h2

theorem kind_lit (lat n m : Int) : 1 ≤ kindOf (sunOf lat n (fromNoon m)) ∧ kindOf (sunOf lat n (fromNoon m)) ≤ 3 ∧ (kindOf (sunOf lat n (fromNoon m)) = 1 ↔ litS lat n m = true) := by
  unfold kindOf litS
  rw [decide_eq_true_eq]
  split
  · exact ⟨by omega, by omega, by omega⟩
  · split <;> exact ⟨by omega, by omega, by omega⟩

theorem nights_night (w : World) (hS : SinesAt w) (mn : Int) (m0 : 0 ≤ mn) (m1 : mn < 1440) (x y : Int) : NightNo w x y ∨ ∃ dark rise set two kind, NightYes w x y mn dark rise set two kind := by
  cases h : askB x y
  · exact .inl ⟨fun w' hb => dark_no x y w' (hS.below hb) h, fun w' hb => rise_no x y w' (hS.below hb) h, fun w' hb => set_no x y w' (hS.below hb) h⟩
  · obtain ⟨⟨x0, x1⟩, y0, y1⟩ := ask_iff.1 h
    obtain ⟨n, hn⟩ := doy_ex y0
    obtain ⟨r, hr⟩ := rise_ex (lat := x) (n := n)
    have hm : inB 0 1439 [mn] = true := by simp [inB]; omega
    obtain ⟨n0, n1⟩ := hn.bd
    obtain ⟨k0, k1, hk⟩ := kind_lit x n mn
    refine .inr ⟨darkOf r, (dayL r).1, (dayL r).2.1, (dayL r).2.2, kindOf (sunOf x n (fromNoon mn)), k0, k1, ?_, fun w' hb => dark_in x y n r w' (hS.below hb) h hn hr, fun w' hb => rise_in x y n r w' (hS.below hb) h hn hr, fun w' hb => set_in x y n r w' (hS.below hb) h hn hr, fun w' hb => kind_in x y n mn w' (hS.below hb) hn h hm⟩
    by_cases c : r < 0
    · exact .inl ⟨by unfold dayL; rw [if_pos c], by unfold darkOf; rw [if_pos c]⟩
    · have hl := lit_iff x0 x1 (by omega) (by omega) hr (by omega) m0 (show mn ≤ 1439 by omega)
      rw [hl, decide_eq_true_eq] at hk
      have e := hr.le
      have hs := setOf_bd (show 0 ≤ r by omega) e.2
      refine .inr ?_
      unfold dayL darkOf
      rw [if_neg c, if_neg c]
      simp only []
      generalize kindOf (sunOf x n (fromNoon mn)) = k at hk k0 k1
      refine ⟨trivial, by omega, by omega, hs.2.2, hs.2.1, trivial, ?_⟩
      by_cases q : r ≤ mn ∧ mn < setOf r
      · exact .inl ⟨hk.2 q, q⟩
      · have qk : k ≠ 1 := fun e => q (hk.1 e)
        by_cases q1 : mn < r
        · exact .inr (.inl ⟨qk, q1⟩)
        · exact .inr (.inr ⟨qk, by omega, by omega⟩)

theorem nights_season (w : World) (hS : SinesAt w) (p a c : Int) (a0 : -1 ≤ a) (a1 : a ≤ 100000) (c0 : 0 ≤ c) : SeasonNo w p a c ∨ ∃ sum first, SeasonYes w p a c sum first := by
  obtain ⟨f, hf, hfb⟩ := season_f p a
  cases hs : seasonB p a c
  · refine .inl ⟨fun w' hb => ?_, fun w' hb => impl_long_no p a c f w' (hS.below hb) hf hfb (by omega) (by omega) hs⟩
    have := impl_sum p a c f w' (hS.below hb) hf hfb (by omega) (by omega)
    rw [show sumV p a c f = (0, 2) by unfold sumV; rw [hs]; rfl] at this
    exact this
  · obtain ⟨⟨p0, p1⟩, ⟨b0, b1⟩, ⟨d0, d1⟩, e⟩ := season_iff.1 hs
    obtain ⟨n, rfl⟩ := Int.eq_ofNat_of_zero_le c0
    have hd := hf b0
    refine .inr ⟨sumTo f n, f 0, b0, b1, d0, d1, fun w' hb => ?_, fun w' hb => (impl_long_yes p a n f w' (hS.below hb) hf hfb (by omega) (by omega) hs).mono ?_, fun w' hb => dark_at p a (f 0) w' (hS.below hb) (ask_iff.2 ⟨⟨p0, p1⟩, b0, b1⟩) ?_⟩
    · have := impl_sum p a n f w' (hS.below hb) hf hfb (by omega) (by omega)
      rw [show sumV p a n f = (sumTo f n, 0) by unfold sumV; rw [hs]; rfl] at this
      exact this
    · rintro e' w1 ⟨d, m, ⟨i, hi, rfl, rfl, _, hall⟩, rfl, hb1⟩
      have h1 := sum_le n hall
      have h2 := one_le_sum hfb n i hi
      have h3 := hfb i
      have h4 := hall 0 (by omega)
      have h5 : 0 ≤ (n : Int) * f i := Int.mul_nonneg (by omega) h3.1
      have h6 : (n : Int) * f i ≤ 400 * 1440 := Int.mul_le_mul (by omega) h3.2 h3.1 (by omega)
      exact ⟨_, _, by omega, by omega, h3.1, h3.2, h4, h1, h2, h5, by omega, fun w2 hb2 => dark_at p _ _ w2 (hS.below hb2) (ask_iff.2 ⟨⟨p0, p1⟩, by omega, by omega⟩) (hd i), rfl, hb1⟩
    · have := hd 0
      rw [show a + ((0 : Nat) : Int) = a by omega] at this
      exact this

set_option maxRecDepth 100000 in
set_option maxHeartbeats 2000000 in
theorem nights_law (a0 : Option Addr) (len0 cap0 : Nat) (a1 : Option Addr) (len1 cap1 : Nat) (z0 z1 : List Int) (w : World)
    (h0 : ArgIn .u8 w (.slice a0 len0 cap0) z0) (e0 : z0.length = len0) (b0 : BytesAre z0) (h1 : ArgIn .u8 w (.slice a1 len1 cap1) z1) (e1 : z1.length = len1) (b1 : BytesAre z1)
    (hL : laidMetH Tryd.prog Rows.fnNightsRow.laid w) :
    Calls Tryd.prog 4 #[.slice a0 len0 cap0, .slice a1 len1 cap1] w fun e w' => e = .returned (.bool true) ∧ Below w.heap.size w w' := by
  have hS := sines_of hL
  clear hL
  have H0 := fun w => toolong_is a0 len0 cap0 w
  have H1 := fun w => toolong_is a1 len1 cap1 w
  by_cases k0 : (1048576 : Int) < (len0 : Int)
  · simp only [decide_eq_true k0] at H0
    have HL0 := Lib.hid H0
    clear H0 H1 h0 h1 hS
    go_enter Tryd.func4, Tryd.ntmps4
    go_wp2_with (go_at_call 19; refine (HL0.out _).mono ?_; rintro e w' ⟨rfl, rfl⟩)
    go_ret
    exact ⟨rfl, Below.refl _ _⟩
  · simp only [decide_eq_false k0] at H0
    by_cases k1 : (1048576 : Int) < (len1 : Int)
    · simp only [decide_eq_true k1] at H1
      have HL0 := Lib.hid H0
      have HL1 := Lib.hid H1
      clear H0 H1 h0 h1 hS
      generalize Value.slice a0 len0 cap0 = sv0 at *
      generalize Value.slice a1 len1 cap1 = sv1 at *
      go_enter Tryd.func4, Tryd.ntmps4
      go_wp2_with (go_at_call 19; (first | refine (HL0.out _).mono ?_ | refine (HL1.out _).mono ?_); rintro e w' ⟨rfl, rfl⟩)
      go_ret
      exact ⟨rfl, Below.refl _ _⟩
    · simp only [decide_eq_false k1] at H1
      obtain ⟨m0, m1⟩ := wideV_bd (zs := z1) (k := 0) (n := 1440) (by omega)
      exact nights_walk _ _ w (wideV z1 0 1440) m0 m1 (Lib.hid H0) (Lib.hid H1)
        (Lib.hid fun w' hb => night_draw w' _ z0 (h0.below hb) b0 (by omega))
        (Lib.hid fun w' hb => nights_draw w' _ z1 (h1.below hb) b1 (by omega))
        (Lib.hid fun w' hb => b10wide_any w' _ z1 0 1440 (h1.below hb) b1 (by omega) (by omega) (by omega) (by omega))
        (Lib.hid fun x y => nights_night w hS _ m0 m1 x y)
        (Lib.hid fun p a c a0 a1 c0 _ => nights_season w hS p a c a0 a1 c0)
end Go.Proofs.YtagebpmciimcgabDoor
