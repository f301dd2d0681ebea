/- The law of the basics. -/
import Derived.Test.YthggoboljkdldabDoorBasM
namespace Go.Proofs.YthggoboljkdldabDoor
open Go.ChangeShapes Go.WideShapes Go.ChangeAt Go.RowKit Pm

/-- What the first half leaves: the quotient's facts. -/
theorem div_facts {a b : Int} (a0 : -100000 ≤ a) (a1 : a ≤ 3600000000) (b0 : 1 ≤ b) (b1 : b ≤ 5000) :
    ∃ q : Int, divR a b = q ∧ divR (-a) b = -q ∧ -4000000000 ≤ q ∧ q ≤ 4000000000 ∧ 2 * (a - q * b) ≤ b ∧ -b ≤ 2 * (a - q * b) ∧ -4000000000 ≤ q * b ∧ q * b ≤ 4000000000 := by
  refine ⟨dvp a b, divR_in (by omega) (by omega) (by omega) (by omega), ?_, ?_⟩
  · rw [divR_in (by omega) (by omega) (by omega) (by omega), dvp_neg a b (by omega)]
  · have h1 := dvp_near a b (by omega)
    have h2 := dvp_bd a b (by omega) (by omega) (by omega)
    generalize dvp a b * b = t at *
    generalize dvp a b = q at *
    omega

theorem root_facts {a r : Int} (h : Root a r) (a1 : a ≤ 3600000000) :
    0 ≤ r ∧ r ≤ 60000 ∧ 0 ≤ r * r ∧ r * r ≤ 3600000000 ∧ 0 ≤ (r + 1) * (r + 1) ∧ (r + 1) * (r + 1) ≤ 4000000000 := by
  obtain ⟨r0, r1⟩ := root_bd h a1
  have h1 := sq_le r0 r1
  have h2 := sq_le (show 0 ≤ r + 1 by omega) (show r + 1 ≤ 60001 by omega)
  refine ⟨r0, r1, h1.1, by omega, h2.1, by omega⟩

theorem ints_five (w : World) (T : TypeId) (a b c d f : Int) : IntsAre .i64 (w.alloc (.cells #[Value.int .i64 a, Value.int .i64 b, Value.int .i64 c, Value.int .i64 d, Value.int .i64 f] T)) (.slice (some ⟨w.heap.size, 0, none⟩) 5 5) [a, b, c, d, f] :=
  ints_new w .i64 [a, b, c, d, f] T 5 (by simp)

/-- The list's text, and what is read of it. -/
theorem list_facts (a b c d f : Int) (ha : -100000 ≤ a ∧ a ≤ 3600000000) (hb : 1 ≤ b ∧ b ≤ 5000) (hc : 0 ≤ c ∧ c < 1000) (hd : -2500 ≤ d ∧ d < 2500) (hf : -2500 ≤ f ∧ f < 2500) :
    ∃ t : ByteArray, (∀ sv w, IntsAre .i64 w sv [a, b, c, d, f] → PowAt w → Calls Tryd.prog 13 #[sv] w fun e w' => e = .returned (.string t) ∧ Below w.heap.size w w') ∧
      ∀ w, LenAt w → PowAt w → ErrsAt w → Calls Tryd.prog 12 #[.string t] w (RL [a, b, c, d, f] true w) := by
  have hin : inB (-1000000000000) 1000000000000 [a, b, c, d, f] = true := by simp [inB]; omega
  have hfit : fitsB [a, b, c, d, f] = true := by unfold fitsB; rw [hin]; rfl
  have hT : listT [a, b, c, d, f] = jn [a, b, c, d, f] := by unfold listT; rw [if_pos hfit, if_neg (by simp)]
  obtain ⟨e1, e2⟩ := read_back [a, b, c, d, f] (by simp) (by simp) hin
  refine ⟨⟨(jn [a, b, c, d, f]).toArray⟩, fun sv w h hp => ?_, fun w hL hP hE => ?_⟩
  · have := listtext_any sv _ w h hp
    rw [hT] at this
    exact this
  · have hsz : (jn [a, b, c, d, f]).length ≤ 22 * 5 := jn_len 5 _ rfl (fun z hz => by
      unfold inB at hin
      have := List.all_eq_true.1 hin z hz
      simp at this; omega)
    have := readlist_any ⟨(jn [a, b, c, d, f]).toArray⟩ w (by show (jn [a, b, c, d, f]).toArray.size ≤ _; simpa using (by omega : (jn [a, b, c, d, f]).length ≤ 1048576)) hL hP hE
    unfold RLRet at this
    rw [e1, e2] at this
    exact this
theorem dec_facts_a (a : Int) (a0 : -100000 ≤ a) (a1 : a ≤ 3600000000) :
    ∃ u : ByteArray, (∀ w, PowAt w → Calls Tryd.prog 15 #[.int .i64 a] w fun e w' => e = .returned (.string u) ∧ Below w.heap.size w w') ∧
      ∀ w, PowAt w → ErrsAt w → Calls Tryd.prog 14 #[.string u] w fun e w' => e = .returned (.tuple #[.int .i64 a, .bool true]) ∧ Below w.heap.size w w' := by
  obtain ⟨e1, e2⟩ := can_in (z := a) (by omega) (by omega)
  refine ⟨⟨(Lib.itoa a).toArray⟩, fun w hp => decimal_any a w (by omega) (by omega) hp, fun w hP hE => ?_⟩
  have hl := Lib.itoa_length_le a (by omega) (by omega)
  have := readdec_any ⟨(Lib.itoa a).toArray⟩ w (by show (Lib.itoa a).toArray.size ≤ _; simpa using (by omega : (Lib.itoa a).length ≤ 281474976710656)) hP hE
  rw [show (⟨(Lib.itoa a).toArray⟩ : ByteArray).data.toList = Lib.itoa a from rfl, e1, e2] at this
  exact this

set_option maxRecDepth 100000 in
set_option maxHeartbeats 4000000 in
theorem basics_small (sv0 sv1 : Value) (z0 z1 : List Int) (w : World) (h0 : ArgInts .u8 w sv0 z0) (h1 : ArgInts .u8 w sv1 z1) (hz0 : BytesIn z0) (hz1 : BytesIn z1) (hl0 : z0.length ≤ 1048576) (hl1 : z1.length ≤ 1048576)
    (hL : LenAt w) (hP : PowAt w) (hE : ErrsAt w) :
    Calls Tryd.prog 3 #[sv0, sv1] w fun e w' => e = .returned (.bool true) ∧ Below w.heap.size w w' := by
  have HLG := Lib.hid (show Calls Tryd.prog 5 #[sv0, sv1] w fun e w' => e = .returned (.bool false) ∧ w = w' from by
    obtain ⟨a, c, e0⟩ := h0.len
    obtain ⟨a', c', e1⟩ := h1.len
    rw [e0, e1]
    exact long_no _ _ _ _ _ _ _ hl0 hl1)
  have HNM := Lib.hid (numbers_any w sv0 z0 h0 hz0 hl0)
  have HWD := Lib.hid (fun w' (hb : Below w.heap.size w w') (k : Nat) (n : Int) (h2 : 1 < n) (h3 : n ≤ 100000) (h4 : k ≤ 900) => r8wide_any w' sv1 z1 k n (h1.below hb) hz1 hl1 h4 h2 h3)
  have HLN := Lib.hid hL
  have HPW := Lib.hid hP
  have HER := Lib.hid hE
  clear h0 h1 hz0 hz1 hl0 hl1 hL hP hE
  go_enter Tryd.func3, Tryd.ntmps3
  go_wp2_with (go_at_call 5; refine HLG.out.mono ?_; rintro e w' ⟨rfl, rfl⟩; refine Hid.out ?_)
  refine Lib.hid ?_
  clear HLG
  go_wp2_with (go_at_call 6; refine HNM.out.mono ?_; rintro e w1 ⟨a, b, a0, a1, b0, b1, rfl, hb1⟩; refine Hid.out ?_)
  refine Lib.hid ?_
  clear HNM
  go_wp2_with (go_at_call 7; refine (rootof_any _ _ (by omega)).mono ?_; rintro e w2 ⟨r, hr, rfl, rfl⟩; refine Hid.out ?_)
  refine Lib.hid ?_
  obtain ⟨r0, r1, s0, s1, t0, t1⟩ := root_facts hr a1
  obtain ⟨q, hq1, hq2, q0, q1, n0, n1, p0, p1⟩ := div_facts a0 a1 b0 b1
  have HR := Lib.hid hr
  have HB1 := Lib.hid hb1
  have HQ1 := Lib.hid hq1
  have HQ2 := Lib.hid hq2
  clear hr hb1 hq1 hq2
  have hcase : (a < 0 ∧ r = 0) ∨ (0 ≤ a ∧ r * r ≤ a ∧ a < (r + 1) * (r + 1)) := by
    by_cases ha : a < 0
    · exact .inl ⟨ha, HR.out.2.2.1 ha⟩
    · exact .inr ⟨by omega, HR.out.2.2.2 (by omega)⟩
  clear HR
  rcases hcase with ⟨ha, rfl⟩ | ⟨ha, f1, f2⟩
  all_goals
    go_wp2_with (go_at_call 8; refine (divround_any _ _ _).mono ?_; rintro e w3 ⟨he, hb3⟩; rw [HQ1.out] at he; subst he; refine Hid.out ?_)
    refine Lib.hid ?_
    have HB3 := Lib.hid (HB1.out.trans (hb3.mono HB1.out.size))
    clear hb3
    go_wp2_with (go_at_call 9; refine (r8abs_any _ _ (by omega) (by omega)).mono ?_; rintro e w4 ⟨rfl, rfl⟩; refine Hid.out ?_)
    refine Lib.hid ?_
    obtain ⟨m, hm⟩ : ∃ m : Nat, m = (a - q * b).natAbs := ⟨_, rfl⟩
    have hm2 : 2 * (m : Int) ≤ b := by omega
    rw [← hm]
    clear hm
    go_wp2_with (go_at_call 8; refine (divround_any _ _ _).mono ?_; rintro e w5 ⟨he, hb5⟩; rw [HQ2.out] at he; subst he; refine Hid.out ?_)
    refine Lib.hid ?_
    have HB5 := Lib.hid (HB3.out.trans (hb5.mono HB3.out.size))
    clear hb5
    obtain ⟨x, hx⟩ : ∃ x, x = wideV z1 0 1000 := ⟨_, rfl⟩
    obtain ⟨Y, hY⟩ : ∃ Y, Y = wideV z1 2 5000 := ⟨_, rfl⟩
    obtain ⟨Z, hZ⟩ : ∃ Z, Z = wideV z1 4 5000 := ⟨_, rfl⟩
    have hxb := wideV_bd (zs := z1) (k := 0) (n := 1000) (by omega)
    have hYb := wideV_bd (zs := z1) (k := 2) (n := 5000) (by omega)
    have hZb := wideV_bd (zs := z1) (k := 4) (n := 5000) (by omega)
    have W0 := Lib.hid (show Calls Tryd.prog 10 #[sv1, .int .i64 0, .int .i64 1000] w5 fun e w' => e = .returned (.int .i64 (wideV z1 0 1000)) ∧ w5 = w' from HWD.out w5 HB5.out 0 1000 (by omega) (by omega) (by omega))
    have W2 := Lib.hid (show Calls Tryd.prog 10 #[sv1, .int .i64 2, .int .i64 5000] w5 fun e w' => e = .returned (.int .i64 (wideV z1 2 5000)) ∧ w5 = w' from HWD.out w5 HB5.out 2 5000 (by omega) (by omega) (by omega))
    have W4 := Lib.hid (show Calls Tryd.prog 10 #[sv1, .int .i64 4, .int .i64 5000] w5 fun e w' => e = .returned (.int .i64 (wideV z1 4 5000)) ∧ w5 = w' from HWD.out w5 HB5.out 4 5000 (by omega) (by omega) (by omega))
    rw [← hx] at W0 hxb
    rw [← hY] at W2 hYb
    rw [← hZ] at W4 hZb
    obtain ⟨x0, x1⟩ := hxb
    obtain ⟨Y0, Y1⟩ := hYb
    obtain ⟨Z0, Z1⟩ := hZb
    clear hx hY hZ
    obtain ⟨v0, v1⟩ := line_at (Y - 2500) (Z - 2500) x (by omega) (by omega) (by omega) (by omega) (by omega) (by omega)
    obtain ⟨v, hv⟩ : ∃ v, blendV 0 (Y - 2500) 1000 (Z - 2500) x = v := ⟨_, rfl⟩
    rw [hv] at v0 v1
    have HV := Lib.hid hv
    have HVL := Lib.hid (line_low (Y - 2500) (Z - 2500) (by omega) (by omega) (by omega) (by omega))
    have HVH := Lib.hid (line_high (Y - 2500) (Z - 2500) (by omega) (by omega) (by omega) (by omega))
    clear hv
    obtain ⟨t, ht1, ht2⟩ := list_facts a b x (Y - 2500) (Z - 2500) ⟨a0, a1⟩ ⟨b0, b1⟩ ⟨x0, x1⟩ ⟨by omega, by omega⟩ ⟨by omega, by omega⟩
    obtain ⟨u, hu1, hu2⟩ := dec_facts_a a a0 a1
    have HT1 := Lib.hid ht1
    have HT2 := Lib.hid ht2
    have HU1 := Lib.hid hu1
    have HU2 := Lib.hid hu2
    clear ht1 ht2 hu1 hu2
    go_wp2_with (go_at_call 10; refine W0.out.mono ?_; rintro e w6 ⟨rfl, rfl⟩; refine Hid.out ?_)
    refine Lib.hid ?_
    go_wp2_with (go_at_call 10; refine W2.out.mono ?_; rintro e w6 ⟨rfl, rfl⟩; refine Hid.out ?_)
    refine Lib.hid ?_
    go_wp2_with (go_at_call 10; refine W4.out.mono ?_; rintro e w6 ⟨rfl, rfl⟩; refine Hid.out ?_)
    refine Lib.hid ?_
    go_wp2_with (go_at_call 11; refine (blend_any _ _ _ _ _ _).mono ?_; rintro e w7 ⟨he, hb7⟩; rw [HV.out] at he; subst he; refine Hid.out ?_)
    refine Lib.hid ?_
    have HB7 := Lib.hid (HB5.out.trans (hb7.mono HB5.out.size))
    clear hb7
    go_wp2_with (go_at_call 11; refine (blend_any _ _ _ _ _ _).mono ?_; rintro e w8 ⟨he, hb8⟩; rw [HVL.out] at he; subst he; refine Hid.out ?_)
    refine Lib.hid ?_
    have HB8 := Lib.hid (HB7.out.trans (hb8.mono HB7.out.size))
    clear hb8
    go_wp2_with (go_at_call 11; refine (blend_any _ _ _ _ _ _).mono ?_; rintro e w9 ⟨he, hb9⟩; rw [HVH.out] at he; subst he; refine Hid.out ?_)
    refine Lib.hid ?_
    have HB9 := Lib.hid (HB8.out.trans (hb9.mono HB8.out.size))
    clear hb9
    have HBA := Lib.hid (HB9.out.alloc HB9.out.size (.cells #[Value.int .i64 a, Value.int .i64 b, Value.int .i64 x, Value.int .i64 (Y - 2500), Value.int .i64 (Z - 2500)] 2))
    have HIA := Lib.hid (ints_five w9 2 a b x (Y - 2500) (Z - 2500))
    go_wp2_with (go_at_call 13; refine (HT1.out _ _ HIA.out (PowAt.below HPW.out HBA.out)).mono ?_; rintro e w10 ⟨rfl, hb10⟩; refine Hid.out ?_)
    refine Lib.hid ?_
    have HIB := Lib.hid (IntsAre.below HIA.out hb10)
    have HB10 := Lib.hid (HBA.out.trans (hb10.mono HBA.out.size))
    clear hb10
    go_wp2_with (go_at_call 12; refine (HT2.out _ (LenAt.below HLN.out HB10.out) (PowAt.below HPW.out HB10.out) (ErrsAt.below HER.out HB10.out)).mono ?_; rintro e w11 ⟨vb, rfl, ho, hb11⟩; refine Hid.out ?_)
    refine Lib.hid ?_
    have HIC := Lib.hid (IntsAre.below HIB.out hb11)
    have HBK := Lib.hid (ints_of_own ho (by simp))
    have HB11 := Lib.hid (HB10.out.trans (hb11.mono HB10.out.size))
    clear hb11 ho
    go_wp2_with (go_at_call 15; refine (HU1.out _ (PowAt.below HPW.out HB11.out)).mono ?_; rintro e w12 ⟨rfl, hb12⟩; refine Hid.out ?_)
    refine Lib.hid ?_
    have HID := Lib.hid (IntsAre.below HIC.out hb12)
    have HBL := Lib.hid (IntsAre.below HBK.out hb12)
    have HB12 := Lib.hid (HB11.out.trans (hb12.mono HB11.out.size))
    clear hb12
    go_wp2_with (go_at_call 14; refine (HU2.out _ (PowAt.below HPW.out HB12.out) (ErrsAt.below HER.out HB12.out)).mono ?_; rintro e w13 ⟨rfl, hb13⟩; refine Hid.out ?_)
    refine Lib.hid ?_
    have HIE := Lib.hid (IntsAre.below HID.out hb13)
    have HBM := Lib.hid (IntsAre.below HBL.out hb13)
    have HB13 := Lib.hid (HB12.out.trans (hb13.mono HB12.out.size))
    clear hb13
    go_wp2_with (go_at_call 16; refine (r8same_any _ _ _ _ HBM.out HIE.out).mono ?_; rintro e w14 ⟨rfl, n14, rfl⟩; refine Hid.out ?_)
    refine Lib.hid ?_
    go_wp2_with (fail)
    go_ret
    exact ⟨rfl, below_drewN HB13.out n14⟩
end Go.Proofs.YthggoboljkdldabDoor
