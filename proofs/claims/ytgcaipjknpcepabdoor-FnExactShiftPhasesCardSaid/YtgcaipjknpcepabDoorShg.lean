/- Phases from another time on: the model's and the program's. -/
import Derived.Test.YtgcaipjknpcepabDoorShf
namespace Go.Proofs.YtgcaipjknpcepabDoor
open Go.ChangeShapes Go.WideShapes Go.ChangeAt Go.RowKit Pm

theorem shfV_len (ps : List Ph) (t : Int) : (shfV ps t).length ≤ 1048576 := by
  unfold shfV
  split
  · split
    · omega
    · simp
  · simp
set_option maxHeartbeats 1000000 in
theorem sshf_any (v : Value) (ps : List Ph) (t : Int) (w : World) (hm : ps.length ≤ 1048576) (h : PhAre w v ps) :
    Calls Tryd.prog 8 #[v, .int .i64 t] w (OwnPair (shfV ps t) (shfC ps t) w) := by
  have HV := Lib.hid (sval_any v ps w hm h)
  cases hb : validP ps
  · have HZ := Lib.hid (show shfV ps t = [] by unfold shfV; rw [hb]; rfl)
    have HC := Lib.hid (show shfC ps t = 1 by unfold shfC; rw [hb]; rfl)
    rw [hb] at HV
    clear hb h
    go_enter Tryd.func8, Tryd.ntmps8
    go_wp2_with (go_at_call 21; refine HV.out.mono ?_; rintro e w1 ⟨rfl, rfl⟩)
    go_ret2
    exact ⟨_, retVI HC.out.symm, by rw [HZ.out]; exact OwnPh.none _ _, Below.refl _ _⟩
  · have hv := validP_out hb
    have hT := hv.ten
    have HS := Lib.hid (stenths_any v ps w h hv)
    have hln : ((tenL ps).map unT).length = (tenL ps).length := List.length_map _
    have hp : 1 ≤ ((tenL ps).map unT).length := by rw [hln]; exact hT.pos
    have hq : ((tenL ps).map unT).length ≤ 600 := by rw [hln]; exact hT.most
    have hR : phsR (rotL ((tenL ps).map unT) (plc t ((tenL ps).map unT).length)) = shfR ps t := by unfold shfR; rw [rot_map, hln]
    have hRl : (shfR ps t).length ≤ 600 := by
      rw [← hR]
      refine Nat.le_trans (phsR_len _) ?_
      rw [rotL_len]; exact hq
    have hV2 : shfV ps t = if (shfR ps t).length ≤ 40 then shfR ps t else [] := by unfold shfV; rw [hb]; rfl
    have hC2 : shfC ps t = if (shfR ps t).length ≤ 40 then 0 else 5 := by unfold shfC; rw [hb]; rfl
    obtain ⟨l, hl⟩ : ∃ l, l = (tenL ps).map unT := ⟨_, rfl⟩
    rw [← hl] at HS hp hq hR
    have HM := Lib.hid (fun w => smod_any t l.length w hp hq)
    have HJ := Lib.hid (fun w g cap hc => sjoin_any g cap l (plc t l.length) w hp hq (plc_lt t _ hp) hc)
    rw [hR] at HJ
    obtain ⟨b, hbb⟩ : ∃ b, b = plc t l.length := ⟨_, rfl⟩
    obtain ⟨R, hRR⟩ : ∃ R, R = shfR ps t := ⟨_, rfl⟩
    rw [← hbb] at HM HJ
    rw [← hRR] at HJ hRl hV2 hC2
    rw [hb] at HV
    have HV2 := Lib.hid hV2
    have HC2 := Lib.hid hC2
    clear hb h hv hT hln hl hR hV2 hC2 hbb hRR
    have hl0 : 0 < l.length := hp
    by_cases h40 : R.length ≤ 40
    · have HZ := Lib.hid (HV2.out.trans (if_pos h40))
      have HC := Lib.hid (HC2.out.trans (if_pos h40))
      have h40i : ¬ (40 : Int) < (R.length : Int) := by omega
      have h40g : ¬ (R.length : Int) > 40 := by omega
      clear HV2 HC2
      go_enter Tryd.func8, Tryd.ntmps8
      go_wp2_with (first
        | (go_at_call 21; refine HV.out.mono ?_; rintro e w1 ⟨rfl, rfl⟩)
        | (go_at_call 22; refine HS.out.mono ?_; rintro e w2 ⟨v2, rfl, ho, hb⟩; obtain ⟨g, cap, rfl, _, _, _, hcell⟩ := ho.form2 hl0; have HB := Lib.hid hb; have HCE := Lib.hid hcell; clear ho hb hcell)
        | (go_at_call 24; refine (HM.out _).mono ?_; rintro e w3 ⟨rfl, rfl⟩)
        | (go_at_call 23; refine (HJ.out _ _ _ HCE.out).mono ?_; rintro e w4 ⟨v4, rfl, ho, hb⟩; obtain ⟨a4, c4, rfl, _⟩ := ho.are; have HO := Lib.hid ho; have HB4 := Lib.hid (Below.next HB.out hb); have HSZ := Lib.hid HB.out.size; clear ho hb))
      go_ret2
      exact ⟨_, retVI HC.out.symm, by rw [HZ.out]; exact HO.out.mono HSZ.out, HB4.out⟩
    · have HZ := Lib.hid (HV2.out.trans (if_neg h40))
      have HC := Lib.hid (HC2.out.trans (if_neg h40))
      have h40i : (40 : Int) < (R.length : Int) := by omega
      clear HV2 HC2 h40
      go_enter Tryd.func8, Tryd.ntmps8
      go_wp2_with (first
        | (go_at_call 21; refine HV.out.mono ?_; rintro e w1 ⟨rfl, rfl⟩)
        | (go_at_call 22; refine HS.out.mono ?_; rintro e w2 ⟨v2, rfl, ho, hb⟩; obtain ⟨g, cap, rfl, _, _, _, hcell⟩ := ho.form2 hl0; have HB := Lib.hid hb; have HCE := Lib.hid hcell; clear ho hb hcell)
        | (go_at_call 24; refine (HM.out _).mono ?_; rintro e w3 ⟨rfl, rfl⟩)
        | (go_at_call 23; refine (HJ.out _ _ _ HCE.out).mono ?_; rintro e w4 ⟨v4, rfl, ho, hb⟩; obtain ⟨a4, c4, rfl, _⟩ := ho.are; have HB4 := Lib.hid (Below.next HB.out hb); clear ho hb))
      go_ret2
      exact ⟨_, retVI HC.out.symm, by rw [HZ.out]; exact OwnPh.none _ _, HB4.out⟩
set_option maxHeartbeats 1000000 in
theorem shf_any (v : Value) (ps : List Ph) (t : Int) (w : World) (hm : ps.length ≤ 1048576) (h : PhAre w v ps) :
    Calls Tryd.prog 10 #[v, .int .i64 t] w (OwnPair (shfV ps t) (shfC ps t) w) := by
  have HV := Lib.hid (val_any v ps w hm h)
  cases hb : validP ps
  · have HZ := Lib.hid (show shfV ps t = [] by unfold shfV; rw [hb]; rfl)
    have HC := Lib.hid (show shfC ps t = 1 by unfold shfC; rw [hb]; rfl)
    rw [hb] at HV
    clear hb h
    go_enter Tryd.func10, Tryd.ntmps10
    go_wp2_with (go_at_call 26; refine HV.out.mono ?_; rintro e w1 ⟨rfl, hb⟩)
    go_ret2
    exact ⟨_, retVI HC.out.symm, by rw [HZ.out]; exact OwnPh.none _ _, hb⟩
  · have hv := validP_out hb
    have hT := hv.ten
    have HPH := Lib.hid h
    have HS := Lib.hid (fun w h => picture_any v ps w h hv)
    have HF := Lib.hid (fun w => from_any (tenL ps) t w hT.pos hT.most)
    have HJ := Lib.hid (fun w => phases_any (rotL (tenL ps) (plc t (tenL ps).length)) w (fun x hx => hT.pic x (rot_mem hx)) (by rw [rotL_len]; exact hT.most))
    rw [show phsR ((rotL (tenL ps) (plc t (tenL ps).length)).map unT) = shfR ps t from rfl] at HJ
    have hV2 : shfV ps t = if (shfR ps t).length ≤ 40 then shfR ps t else [] := by unfold shfV; rw [hb]; rfl
    have hC2 : shfC ps t = if (shfR ps t).length ≤ 40 then 0 else 5 := by unfold shfC; rw [hb]; rfl
    have hRl : (shfR ps t).length ≤ 600 := by
      refine Nat.le_trans (phsR_len _) ?_
      rw [List.length_map, rotL_len]; exact hT.most
    obtain ⟨s, hs⟩ : ∃ s, s = (⟨(tenL ps).toArray⟩ : ByteArray) := ⟨_, rfl⟩
    obtain ⟨r, hr⟩ : ∃ r, r = (⟨(rotL (tenL ps) (plc t (tenL ps).length)).toArray⟩ : ByteArray) := ⟨_, rfl⟩
    obtain ⟨R, hRR⟩ : ∃ R, R = shfR ps t := ⟨_, rfl⟩
    rw [← hs] at HS HF
    rw [← hr] at HF HJ
    rw [← hRR] at HJ hRl hV2 hC2
    rw [hb] at HV
    have HV2 := Lib.hid hV2
    have HC2 := Lib.hid hC2
    clear hb h hv hT hs hr hRR hV2 hC2
    by_cases h40 : R.length ≤ 40
    · have HZ := Lib.hid (HV2.out.trans (if_pos h40))
      have HC := Lib.hid (HC2.out.trans (if_pos h40))
      have h40i : ¬ (40 : Int) < (R.length : Int) := by omega
      clear HV2 HC2
      go_enter Tryd.func10, Tryd.ntmps10
      go_wp2_with (first
        | (go_at_call 26; refine HV.out.mono ?_; rintro e w1 ⟨rfl, hb⟩; have HB := Lib.hid hb; have HP1 := Lib.hid (HPH.out.below hb); clear hb)
        | (go_at_call 27; refine (HS.out _ HP1.out).mono ?_; rintro e w2 ⟨rfl, hb⟩; have HB2 := Lib.hid (Below.next HB.out hb); clear hb)
        | (go_at_call 28; refine (HF.out _).mono ?_; rintro e w3 ⟨rfl, nn, rfl⟩; have HB3 := Lib.hid (below_drewN HB2.out nn))
        | (go_at_call 29; refine (HJ.out _).mono ?_; rintro e w4 ⟨v4, rfl, ho, hb⟩; obtain ⟨a4, c4, rfl, _⟩ := ho.are; have HO := Lib.hid ho; have HB4 := Lib.hid (Below.next HB3.out hb); have HSZ := Lib.hid HB3.out.size; clear hb ho))
      go_ret2
      exact ⟨_, retVI HC.out.symm, by rw [HZ.out]; exact HO.out.mono HSZ.out, HB4.out⟩
    · have HZ := Lib.hid (HV2.out.trans (if_neg h40))
      have HC := Lib.hid (HC2.out.trans (if_neg h40))
      have h40i : (40 : Int) < (R.length : Int) := by omega
      clear HV2 HC2 h40
      go_enter Tryd.func10, Tryd.ntmps10
      go_wp2_with (first
        | (go_at_call 26; refine HV.out.mono ?_; rintro e w1 ⟨rfl, hb⟩; have HB := Lib.hid hb; have HP1 := Lib.hid (HPH.out.below hb); clear hb)
        | (go_at_call 27; refine (HS.out _ HP1.out).mono ?_; rintro e w2 ⟨rfl, hb⟩; have HB2 := Lib.hid (Below.next HB.out hb); clear hb)
        | (go_at_call 28; refine (HF.out _).mono ?_; rintro e w3 ⟨rfl, nn, rfl⟩; have HB3 := Lib.hid (below_drewN HB2.out nn))
        | (go_at_call 29; refine (HJ.out _).mono ?_; rintro e w4 ⟨v4, rfl, ho, hb⟩; obtain ⟨a4, c4, rfl, _⟩ := ho.are; have HB4 := Lib.hid (Below.next HB3.out hb); clear hb ho))
      go_ret2
      exact ⟨_, retVI HC.out.symm, by rw [HZ.out]; exact OwnPh.none _ _, HB4.out⟩
theorem shf_any2 (v : Value) (ps : List Ph) (t : Int) (w : World) (hm : ps.length ≤ 1048576) (h : PhAre w v ps) (_ : LenAt w) :
    Calls Tryd.prog 10 #[v, .int .i64 t] w (OwnPair (shfV ps t) (shfC ps t) w) := shf_any v ps t w hm h
end Go.Proofs.YtgcaipjknpcepabDoor
