/- Equal patterns: the model's and the program's. -/
import Derived.Test.YtgcaipjknpcepabNrm
import Derived.Test.YtgcaipjknpcepabNor
import Derived.Test.YtgcaipjknpcepabPhsE
namespace Go.Proofs.Ytgcaipjknpcepab
open Go.ChangeShapes Go.WideShapes Go.ChangeAt Go.RowKit Pm

/-- Do two lights differ only by their beginning? -/
def samN (ps qs : List Ph) : Bool := decide (normL (onceL (tenL ps)) = normL (onceL (tenL qs)))
def samV (ps qs : List Ph) : Bool := validP ps && validP qs && samN ps qs
theorem norm_pic {T : List UInt8} (h : PicL T) : ∀ x ∈ normL (onceL T), picb x = true := fun x hx => h.pic x (List.mem_of_mem_take (rot_mem hx))
theorem nrm_len {ps : List Ph} (h : ValP ps) : (nrmP ps).length ≤ 600 := by
  have h1 := phsR_len ((normL (onceL (tenL ps))).map unT)
  rw [List.length_map, normL_len, once_len h.ten.pos] at h1
  have h2 := (perL_is _ h.ten.pos).le
  have h3 := h.ten.most
  unfold nrmP; omega
theorem sam_same {ps qs : List Ph} (h1 : ValP ps) (h2 : ValP qs) : sameP (nrmP ps) (nrmP qs) = samN ps qs := by
  unfold samN
  by_cases e : normL (onceL (tenL ps)) = normL (onceL (tenL qs))
  · rw [decide_eq_true e]
    unfold nrmP; rw [e]; exact sameP_same _
  · rw [decide_eq_false e]
    refine sameP_no fun q => e (mapT_inj (norm_pic h1.ten) (norm_pic h2.ten) (phsR_inj q))
theorem sam_str (x y : List UInt8) : ((⟨x.toArray⟩ : ByteArray).toList == (⟨y.toArray⟩ : ByteArray).toList) = decide (x = y) := by
  rw [ByteArray.toList_mk, ByteArray.toList_mk]
  by_cases e : x = y <;> simp [e]
theorem retBp {a b : Bool} (h : a = b) : Ending.returned (.bool a) = .returned (.bool b) := by rw [h]
set_option maxHeartbeats 1000000 in
theorem ssam_any (v1 v2 : Value) (ps qs : List Ph) (w : World) (m1 : ps.length ≤ 1048576) (m2 : qs.length ≤ 1048576) (h1 : PhAre w v1 ps) (h2 : PhAre w v2 qs) :
    Calls Try.prog 17 #[v1, v2] w fun e w' => e = .returned (.bool (samV ps qs)) ∧ Below w.heap.size w w' := by
  have HV1 := Lib.hid (sval_any v1 ps w m1 h1)
  have HV2 := Lib.hid (sval_any v2 qs w m2 h2)
  cases hb1 : validP ps
  · have HZ := Lib.hid (show samV ps qs = false by unfold samV; rw [hb1]; rfl)
    rw [hb1] at HV1
    clear hb1 h1 h2
    go_enter Try.func17, Try.ntmps17
    go_wp2_with (go_at_call 22; refine HV1.out.mono ?_; rintro e w1 ⟨rfl, rfl⟩)
    go_ret
    exact ⟨retBp HZ.out.symm, Below.refl _ _⟩
  cases hb2 : validP qs
  · have HZ := Lib.hid (show samV ps qs = false by unfold samV; rw [hb1, hb2]; rfl)
    rw [hb1] at HV1
    rw [hb2] at HV2
    clear hb1 hb2 h1 h2
    go_enter Try.func17, Try.ntmps17
    go_wp2_with (go_at_call 22; refine HV1.out.mono ?_; rintro e w1 ⟨rfl, rfl⟩; refine Hid.out ?_)
    refine Lib.hid ?_
    go_wp2_with (go_at_call 22; refine HV2.out.mono ?_; rintro e w1 ⟨rfl, rfl⟩)
    go_ret
    exact ⟨retBp HZ.out.symm, Below.refl _ _⟩
  · have k1 := validP_out hb1
    have k2 := validP_out hb2
    have HZ := Lib.hid (show samV ps qs = sameP (nrmP ps) (nrmP qs) by unfold samV; rw [hb1, hb2, sam_same k1 k2]; rfl)
    have HN1 := Lib.hid (snormal_any v1 ps w h1 k1)
    have HN2 := Lib.hid (fun w h => snormal_any v2 qs w h k2)
    have HP2 := Lib.hid h2
    have hn1 := nrm_len k1
    rw [hb1] at HV1
    rw [hb2] at HV2
    obtain ⟨L1, hL1⟩ : ∃ L, L = nrmP ps := ⟨_, rfl⟩
    obtain ⟨L2, hL2⟩ : ∃ L, L = nrmP qs := ⟨_, rfl⟩
    rw [← hL1] at HN1 HZ hn1
    rw [← hL2] at HN2 HZ
    clear hb1 hb2 h1 h2 k1 k2 hL1 hL2
    have HS := Lib.hid (fun a1 a2 c1 c2 w h1 h2 => ssame_at a1 a2 c1 c2 L1 L2 w (by omega) h1 h2)
    go_enter Try.func17, Try.ntmps17
    go_wp2_with (go_at_call 22; refine HV1.out.mono ?_; rintro e w1 ⟨rfl, rfl⟩; refine Hid.out ?_)
    refine Lib.hid ?_
    go_wp2_with (go_at_call 22; refine HV2.out.mono ?_; rintro e w1 ⟨rfl, rfl⟩; refine Hid.out ?_)
    refine Lib.hid ?_
    go_wp2_with (go_at_call 36; refine HN1.out.mono ?_; rintro e w3 ⟨v3, rfl, ho, hb⟩; obtain ⟨a3, c3, rfl, h3⟩ := ho.are; have HA3 := Lib.hid h3; have HB3 := Lib.hid hb; have HQ3 := Lib.hid (HP2.out.below hb); clear hb ho h3; refine Hid.out ?_)
    refine Lib.hid ?_
    go_wp2_with (go_at_call 36; refine (HN2.out _ HQ3.out).mono ?_; rintro e w4 ⟨v4, rfl, ho, hb⟩; obtain ⟨a4, c4, rfl, h4⟩ := ho.are; have HA4 := Lib.hid h4; have HA34 := Lib.hid (HA3.out.below hb); have HB4 := Lib.hid (Below.next HB3.out hb); clear hb ho h4; refine Hid.out ?_)
    refine Lib.hid ?_
    go_wp2_with (go_at_call 35; refine (HS.out _ _ _ _ _ HA34.out HA4.out).mono ?_; rintro e w5 ⟨rfl, m, rfl⟩)
    go_ret
    exact ⟨retBp HZ.out.symm, below_drewN HB4.out m⟩
set_option maxHeartbeats 1000000 in
theorem sam_any (v1 v2 : Value) (ps qs : List Ph) (w : World) (m1 : ps.length ≤ 1048576) (m2 : qs.length ≤ 1048576) (h1 : PhAre w v1 ps) (h2 : PhAre w v2 qs) (hn : LenAt w) :
    Calls Try.prog 18 #[v1, v2] w fun e w' => e = .returned (.bool (samV ps qs)) ∧ Below w.heap.size w w' := by
  have HV1 := Lib.hid (val_any v1 ps w m1 h1)
  have HV2 := Lib.hid (fun w h => val_any v2 qs w m2 h)
  have HP1 := Lib.hid h1
  have HP2 := Lib.hid h2
  have HN := Lib.hid hn
  cases hb1 : validP ps
  · have HZ := Lib.hid (show samV ps qs = false by unfold samV; rw [hb1]; rfl)
    rw [hb1] at HV1
    clear hb1 h1 h2 hn
    go_enter Try.func18, Try.ntmps18
    go_wp2_with (go_at_call 25; refine HV1.out.mono ?_; rintro e w1 ⟨rfl, hb⟩)
    go_ret
    exact ⟨retBp HZ.out.symm, hb⟩
  cases hb2 : validP qs
  · have HZ := Lib.hid (show samV ps qs = false by unfold samV; rw [hb1, hb2]; rfl)
    rw [hb1] at HV1
    rw [hb2] at HV2
    clear hb1 hb2 h1 h2 hn
    go_enter Try.func18, Try.ntmps18
    go_wp2_with (go_at_call 25; refine HV1.out.mono ?_; rintro e w1 ⟨rfl, hb⟩; have HB := Lib.hid hb; have HQ1 := Lib.hid (HP2.out.below hb); clear hb; refine Hid.out ?_)
    refine Lib.hid ?_
    go_wp2_with (go_at_call 25; refine (HV2.out _ HQ1.out).mono ?_; rintro e w2 ⟨rfl, hb⟩; have HB2 := Lib.hid (Below.next HB.out hb); clear hb)
    go_ret
    exact ⟨retBp HZ.out.symm, HB2.out⟩
  · have k1 := validP_out hb1
    have k2 := validP_out hb2
    have t1 := k1.ten
    have t2 := k2.ten
    have HS1 := Lib.hid (fun w h => picture_any v1 ps w h k1)
    have HS2 := Lib.hid (fun w h => picture_any v2 qs w h k2)
    have HF1 := Lib.hid (fun w h => normal_any (tenL ps) w t1.pos t1.most h)
    have HF2 := Lib.hid (fun w h => normal_any (tenL qs) w t2.pos t2.most h)
    have HZ := Lib.hid (show ((⟨(normL (onceL (tenL ps))).toArray⟩ : ByteArray).toList == (⟨(normL (onceL (tenL qs))).toArray⟩ : ByteArray).toList) = samV ps qs by unfold samV; rw [hb1, hb2, sam_str]; rfl)
    obtain ⟨s1, hs1⟩ : ∃ s, s = (⟨(tenL ps).toArray⟩ : ByteArray) := ⟨_, rfl⟩
    obtain ⟨s2, hs2⟩ : ∃ s, s = (⟨(tenL qs).toArray⟩ : ByteArray) := ⟨_, rfl⟩
    obtain ⟨r1, hr1⟩ : ∃ s, s = (⟨(normL (onceL (tenL ps))).toArray⟩ : ByteArray) := ⟨_, rfl⟩
    obtain ⟨r2, hr2⟩ : ∃ s, s = (⟨(normL (onceL (tenL qs))).toArray⟩ : ByteArray) := ⟨_, rfl⟩
    rw [← hs1] at HS1 HF1
    rw [← hs2] at HS2 HF2
    rw [← hr1] at HF1 HZ
    rw [← hr2] at HF2 HZ
    rw [hb1] at HV1
    rw [hb2] at HV2
    clear hb1 hb2 h1 h2 hn k1 k2 t1 t2 hs1 hs2 hr1 hr2
    go_enter Try.func18, Try.ntmps18
    go_wp2_with (go_at_call 25; refine HV1.out.mono ?_; rintro e w1 ⟨rfl, hb⟩; have HB := Lib.hid hb; have HA1 := Lib.hid (HP1.out.below hb); have HQ1 := Lib.hid (HP2.out.below hb); have HN1 := Lib.hid (HN.out.below hb); clear hb; refine Hid.out ?_)
    refine Lib.hid ?_
    go_wp2_with (go_at_call 25; refine (HV2.out _ HQ1.out).mono ?_; rintro e w2 ⟨rfl, hb⟩; have HB2 := Lib.hid (Below.next HB.out hb); have HA2 := Lib.hid (HA1.out.below hb); have HQ2 := Lib.hid (HQ1.out.below hb); have HN2 := Lib.hid (HN1.out.below hb); clear hb; refine Hid.out ?_)
    refine Lib.hid ?_
    go_wp2_with (go_at_call 31; refine (HS1.out _ HA2.out).mono ?_; rintro e w3 ⟨rfl, hb⟩; have HB3 := Lib.hid (Below.next HB2.out hb); have HQ3 := Lib.hid (HQ2.out.below hb); have HN3 := Lib.hid (HN2.out.below hb); clear hb; refine Hid.out ?_)
    refine Lib.hid ?_
    go_wp2_with (go_at_call 37; refine (HF1.out _ HN3.out).mono ?_; rintro e w4 ⟨rfl, hb⟩; have HB4 := Lib.hid (Below.next HB3.out hb); have HQ4 := Lib.hid (HQ3.out.below hb); have HN4 := Lib.hid (HN3.out.below hb); clear hb; refine Hid.out ?_)
    refine Lib.hid ?_
    go_wp2_with (go_at_call 31; refine (HS2.out _ HQ4.out).mono ?_; rintro e w5 ⟨rfl, hb⟩; have HB5 := Lib.hid (Below.next HB4.out hb); have HN5 := Lib.hid (HN4.out.below hb); clear hb; refine Hid.out ?_)
    refine Lib.hid ?_
    go_wp2_with (go_at_call 37; refine (HF2.out _ HN5.out).mono ?_; rintro e w6 ⟨rfl, hb⟩; have HB6 := Lib.hid (Below.next HB5.out hb); clear hb)
    go_ret
    exact ⟨retBp HZ.out, HB6.out⟩
end Go.Proofs.Ytgcaipjknpcepab
