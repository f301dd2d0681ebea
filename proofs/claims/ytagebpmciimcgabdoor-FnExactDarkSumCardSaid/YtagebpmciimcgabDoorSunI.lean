/- The program's sun: values between whole degrees; the declination; the way of the sun. -/
import Derived.Test.YtagebpmciimcgabDoorSin
import Derived.Test.YtagebpmciimcgabDoorKit
import Derived.Test.YtagebpmciimcgabDoorCalY
import Derived.Test.YtagebpmciimcgabDoorSunN
import Derived.Deep.RegionHeld3
namespace Go.Proofs.YtagebpmciimcgabDoor
open Go.ChangeShapes Go.WideShapes Go.ChangeAt Go.RowKit Pm

theorem divR_eq {a b : Int} (hb : b ≠ 0) (a0 : -1000000000000 ≤ a) (a1 : a ≤ 1000000000000) (b0 : -1000000000000 ≤ b) (b1 : b ≤ 1000000000000) : divR a b = dvr a b := by
  unfold divR
  rw [if_neg]
  rintro (h | h)
  · exact hb h
  · simp [inB] at h; omega
theorem divroundD (a b : Int) (w : World) (hb : b ≠ 0) (a0 : -1000000000000 ≤ a) (a1 : a ≤ 1000000000000) (b0 : -1000000000000 ≤ b) (b1 : b ≤ 1000000000000) :
    Calls Tryd.prog 106 #[.int .i64 a, .int .i64 b] w fun e w' => e = .returned (.int .i64 (dvr a b)) ∧ Below w.heap.size w w' := by
  have := divround_any a b w
  rwa [divR_eq hb a0 a1 b0 b1] at this

/-- The value at r of n parts behind q. -/
def partV (f : Int → Int) (q r n : Int) : Int := f q + dvr ((f (q + 1) - f q) * r) n

theorem partsine_any (q r n : Int) (w : World) (hS : SinesAt w) (q0 : -10000 ≤ q) (q1 : q ≤ 10000) (n0 : 0 < n) (n1 : n ≤ 10) (r0 : 0 ≤ r) (r1 : r ≤ n) :
    Calls Tryd.prog 111 #[.func (.func 107) #[] #[], .int .i64 q, .int .i64 r, .int .i64 n] w fun e w' => e = .returned (.int .i64 (partV sinR q r n)) ∧ Below w.heap.size w w' := by
  have h0 := sin_bd q
  have h1 := sin_bd (q + 1)
  have hm := mulAB (sinR (q + 1) - sinR q) r 2000000 10 (by omega) (by omega) (by omega) (by omega)
  have hp := part_bd (sinR q) (sinR (q + 1)) r n n0 r0 r1 h0.1 h0.2 h1.1 h1.2
  have HQ := Lib.hid (fun w hS => sine_any q w hS)
  have HQ1 := Lib.hid (fun w hS => sine_any (q + 1) w hS)
  have HS := Lib.hid hS
  unfold partV
  obtain ⟨s0, e0⟩ : ∃ s, s = sinR q := ⟨_, rfl⟩
  obtain ⟨s1, e1⟩ : ∃ s, s = sinR (q + 1) := ⟨_, rfl⟩
  rw [← e0] at h0 hm hp HQ ⊢
  rw [← e1] at h1 hm hp HQ1 ⊢
  obtain ⟨p, ep⟩ : ∃ p, (s1 - s0) * r = p := ⟨_, rfl⟩
  rw [ep] at hm hp ⊢
  have HD := Lib.hid (fun w => divroundD p n w (by omega) (by omega) (by omega) (by omega) (by omega))
  obtain ⟨z, ez⟩ : ∃ z, z = dvr p n := ⟨_, rfl⟩
  rw [← ez] at hp HD ⊢
  obtain ⟨a0, a1⟩ := h0
  obtain ⟨b0, b1⟩ := h1
  obtain ⟨c0, c1⟩ := hm
  obtain ⟨d0, d1⟩ := hp
  clear e0 e1 ez hS
  go_enter Tryd.func111, Tryd.ntmps111
  go_wp2_with (first
    | (go_at_call 107; ((with_reducible refine (HQ.out _ HS.out).mono ?_); rintro e w1 ⟨rfl, hb⟩; have ac := Lib.hid hb; clear hb))
    | (go_at_call 107; ((with_reducible refine (HQ1.out _ (HS.out.below ac.out)).mono ?_); rintro e w2 ⟨rfl, hb⟩; have ac2 := Lib.hid (Below.next ac.out hb); clear hb))
    | (go_at_call 106; refine (HD.out _).mono ?_; rintro e w3 ⟨rfl, hb⟩; have ac3 := Lib.hid (Below.next ac2.out hb); clear hb))
  go_ret
  exact ⟨rfl, ac3.out⟩
theorem partcos_any (q r n : Int) (w : World) (hS : SinesAt w) (q0 : -10000 ≤ q) (q1 : q ≤ 10000) (n0 : 0 < n) (n1 : n ≤ 10) (r0 : 0 ≤ r) (r1 : r ≤ n) :
    Calls Tryd.prog 111 #[.func (.func 108) #[] #[], .int .i64 q, .int .i64 r, .int .i64 n] w fun e w' => e = .returned (.int .i64 (partV cosR q r n)) ∧ Below w.heap.size w w' := by
  have h0 := cos_bd q
  have h1 := cos_bd (q + 1)
  have hm := mulAB (cosR (q + 1) - cosR q) r 2000000 10 (by omega) (by omega) (by omega) (by omega)
  have hp := part_bd (cosR q) (cosR (q + 1)) r n n0 r0 r1 h0.1 h0.2 h1.1 h1.2
  have HQ := Lib.hid (fun w hS => cosine_any q w hS)
  have HQ1 := Lib.hid (fun w hS => cosine_any (q + 1) w hS)
  have HS := Lib.hid hS
  unfold partV
  obtain ⟨s0, e0⟩ : ∃ s, s = cosR q := ⟨_, rfl⟩
  obtain ⟨s1, e1⟩ : ∃ s, s = cosR (q + 1) := ⟨_, rfl⟩
  rw [← e0] at h0 hm hp HQ ⊢
  rw [← e1] at h1 hm hp HQ1 ⊢
  obtain ⟨p, ep⟩ : ∃ p, (s1 - s0) * r = p := ⟨_, rfl⟩
  rw [ep] at hm hp ⊢
  have HD := Lib.hid (fun w => divroundD p n w (by omega) (by omega) (by omega) (by omega) (by omega))
  obtain ⟨z, ez⟩ : ∃ z, z = dvr p n := ⟨_, rfl⟩
  rw [← ez] at hp HD ⊢
  obtain ⟨a0, a1⟩ := h0
  obtain ⟨b0, b1⟩ := h1
  obtain ⟨c0, c1⟩ := hm
  obtain ⟨d0, d1⟩ := hp
  clear e0 e1 ez hS
  go_enter Tryd.func111, Tryd.ntmps111
  go_wp2_with (first
    | (go_at_call 108; ((with_reducible refine (HQ.out _ HS.out).mono ?_); rintro e w1 ⟨rfl, hb⟩; have ac := Lib.hid hb; clear hb))
    | (go_at_call 108; ((with_reducible refine (HQ1.out _ (HS.out.below ac.out)).mono ?_); rintro e w2 ⟨rfl, hb⟩; have ac2 := Lib.hid (Below.next ac.out hb); clear hb))
    | (go_at_call 106; refine (HD.out _).mono ?_; rintro e w3 ⟨rfl, hb⟩; have ac3 := Lib.hid (Below.next ac2.out hb); clear hb))
  go_ret
  exact ⟨rfl, ac3.out⟩

theorem sineT_part (t : Int) : sineT t = partV sinR (t / 10) (t % 10) 10 := rfl

theorem sinetenths_any (t : Int) (w : World) (hS : SinesAt w) :
    Calls Tryd.prog 105 #[.int .i64 t] w fun e w' => e = .returned (.int .i64 (sineTV t)) ∧ Below w.heap.size w w' := by
  have H1 := ints_one w .i64 t 2
  cases h : inB (-36000) 36000 [t]
  · have HV := Lib.hid (show sineTV t = 0 by unfold sineTV; rw [h]; rfl)
    have HI := Lib.hid (fun w sv hs => h ▸ within_any (-36000) 36000 sv [t] w hs)
    clear h hS
    go_enter Tryd.func105, Tryd.ntmps105
    go_wp2_with (first
      | (go_at_call 44; refine (HI.out _ _ H1).mono ?_; rintro e w1 ⟨rfl, rfl⟩))
    go_ret
    exact ⟨ret_i HV.out.symm, by go_grown⟩
  · have hb : -36000 ≤ t ∧ t ≤ 36000 := by simpa [inB] using h
    obtain ⟨hb0, hb1⟩ := hb
    have hv : sineTV t = partV sinR (t / 10) (t % 10) 10 := by unfold sineTV; rw [h]; rfl
    have HI := Lib.hid (fun w sv hs => h ▸ within_any (-36000) 36000 sv [t] w hs)
    have HP := Lib.hid (fun w hS => partsine_any (t / 10) (t % 10) 10 w hS (by omega) (by omega) (by omega) (by omega) (by omega) (by omega))
    obtain ⟨m, h1, m0, m1, h3⟩ := tmod10 t
    have h4 := tdiv10 t
    have hr : 0 ≤ t % 10 ∧ t % 10 ≤ 9 := by omega
    have hq : -3600 ≤ t / 10 ∧ t / 10 ≤ 3600 := by omega
    rw [← hv] at HP
    have HS := Lib.hid (hS.below ((Below.refl _ w).alloc (Nat.le_refl _) (.cells #[.int .i64 t] 2)))
    generalize sineTV t = z at *
    obtain ⟨r, er⟩ : ∃ r, r = t % 10 := ⟨_, rfl⟩
    obtain ⟨q, eq⟩ : ∃ q, q = t / 10 := ⟨_, rfl⟩
    rw [← er] at h3 h4 hr HP
    rw [← eq] at h4 hq HP
    obtain ⟨r0, r1⟩ := hr
    clear h hS hv er eq
    go_enter Tryd.func105, Tryd.ntmps105
    go_wp2_with (first
      | (go_at_call 44; refine (HI.out _ _ H1).mono ?_; rintro e w1 ⟨rfl, rfl⟩)
      | (go_at_call 111; refine (HP.out _ HS.out).mono ?_; rintro e w2 ⟨rfl, hb⟩; have ac := Below.next (a := w) (by go_grown) hb; clear hb))
    go_ret
    exact ⟨rfl, ac⟩

theorem decl_yes (D n : Int) (w : World) (hS : SinesAt w) (h : DoyIs D n) (hD : D ≤ 99999) :
    Calls Tryd.prog 104 #[.int .i64 D] w (Ret2 (declOf n) 0 w) := by
  have hb := h.bd
  obtain ⟨b0, b1⟩ := hb
  obtain ⟨y, m, d, hd, hn⟩ := h
  have HY := Lib.hid (fun w => hn ▸ dayofyear_yes D y m d w hd hD)
  have hc := cos_bd (dvr (360 * (n + 10)) 365)
  have HD1 := Lib.hid (fun w => divroundD (360 * (n + 10)) 365 w (by omega) (by omega) (by omega) (by omega) (by omega))
  have HC := Lib.hid (fun w hS => cosine_any (dvr (360 * (n + 10)) 365) w hS)
  have hl : declOf n = -dvr (234 * cosR (dvr (360 * (n + 10)) 365)) 1000000 := rfl
  have hdb := decl_bd (n := n) (by omega) (by omega)
  have HS := Lib.hid hS
  obtain ⟨x, ex⟩ : ∃ x, x = dvr (360 * (n + 10)) 365 := ⟨_, rfl⟩
  rw [← ex] at hc HD1 HC hl
  obtain ⟨c, ec⟩ : ∃ c, c = cosR x := ⟨_, rfl⟩
  rw [← ec] at hc HC hl
  have HD2 := Lib.hid (fun w => divroundD (234 * c) 1000000 w (by omega) (by omega) (by omega) (by omega) (by omega))
  obtain ⟨z, ez⟩ : ∃ z, z = dvr (234 * c) 1000000 := ⟨_, rfl⟩
  rw [← ez] at HD2 hl
  rw [hl] at hdb ⊢
  obtain ⟨c0, c1⟩ := hc
  clear ex ec ez hl hS hd hn
  go_enter Tryd.func104, Tryd.ntmps104
  go_wp2_with (first
    | (go_at_call 125; refine (HY.out _).mono ?_; rintro e w1 ⟨rfl, hb⟩; have ac := Lib.hid hb; clear hb)
    | (go_at_call 106; ((with_reducible refine (HD1.out _).mono ?_); rintro e w2 ⟨rfl, hb⟩; have ac2 := Lib.hid (Below.next ac.out hb); clear hb))
    | (go_at_call 108; refine (HC.out _ (HS.out.below ac2.out)).mono ?_; rintro e w3 ⟨rfl, hb⟩; have ac3 := Lib.hid (Below.next ac2.out hb); clear hb)
    | (go_at_call 106; ((with_reducible refine (HD2.out _).mono ?_); rintro e w4 ⟨rfl, hb⟩; have ac4 := Lib.hid (Below.next ac3.out hb); clear hb)))
  go_ret2
  exact ⟨rfl, ac4.out⟩
theorem decl_no (D : Int) (w : World) (h : inB 0 99999 [D] = false) :
    Calls Tryd.prog 104 #[.int .i64 D] w (Ret2 0 2 w) := by
  have HY := Lib.hid (fun w => dayofyear_no D w h)
  clear h
  go_enter Tryd.func104, Tryd.ntmps104
  go_wp2_with (first
    | (go_at_call 125; refine (HY.out _).mono ?_; rintro e w1 ⟨rfl, hb⟩; have ac := Lib.hid hb; clear hb))
  go_ret2
  exact ⟨rfl, ac.out⟩
end Go.Proofs.YtagebpmciimcgabDoor
