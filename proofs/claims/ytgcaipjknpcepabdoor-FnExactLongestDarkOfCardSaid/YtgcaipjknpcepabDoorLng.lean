/- The longest time without light: the model's and the program's. -/
import Derived.Test.YtgcaipjknpcepabDoorLngM
import Derived.Test.YtgcaipjknpcepabDoorShf
namespace Go.Proofs.YtgcaipjknpcepabDoor
open Go.ChangeShapes Go.WideShapes Go.ChangeAt Go.RowKit Pm

theorem smaxn_any (a b : Nat) (w : World) :
    Calls Tryd.prog 36 #[.int .i64 a, .int .i64 b] w fun e w' => e = .returned (.int .i64 ((max a b : Nat) : Int)) ∧ w = w' := by
  obtain ⟨r, hr⟩ : ∃ r, max a b = r := ⟨_, rfl⟩
  rw [hr]
  by_cases h : b < a
  · have hv : a = r := by omega
    have hi : (b : Int) < (a : Int) := by omega
    subst hv
    clear hr
    go_enter Tryd.func36, Tryd.ntmps36
    go_wp2
    go_ret
    exact ⟨rfl, rfl⟩
  · have hv : b = r := by omega
    have hi : ¬ (b : Int) < (a : Int) := by omega
    subst hv
    clear hr
    go_enter Tryd.func36, Tryd.ntmps36
    go_wp2
    go_ret
    exact ⟨rfl, rfl⟩
theorem sminn_any (a b : Nat) (w : World) :
    Calls Tryd.prog 37 #[.int .i64 a, .int .i64 b] w fun e w' => e = .returned (.int .i64 ((min a b : Nat) : Int)) ∧ w = w' := by
  obtain ⟨r, hr⟩ : ∃ r, min a b = r := ⟨_, rfl⟩
  rw [hr]
  by_cases h : a < b
  · have hv : a = r := by omega
    have hi : (a : Int) < (b : Int) := by omega
    subst hv
    clear hr
    go_enter Tryd.func37, Tryd.ntmps37
    go_wp2
    go_ret
    exact ⟨rfl, rfl⟩
  · have hv : b = r := by omega
    have hi : ¬ (a : Int) < (b : Int) := by omega
    subst hv
    clear hr
    go_enter Tryd.func37, Tryd.ntmps37
    go_wp2
    go_ret
    exact ⟨rfl, rfl⟩
set_option maxRecDepth 100000 in
set_option maxHeartbeats 2000000 in
theorem slong_any (v : Value) (ps : List Ph) (w : World) (hm : ps.length ≤ 1048576) (h : PhAre w v ps) :
    Calls Tryd.prog 18 #[v] w fun e w' => e = .returned (.tuple #[.int .i64 (drkV ps), .int .i64 (lenC ps)]) ∧ Below w.heap.size w w' := by
  have HV := Lib.hid (sval_any v ps w hm h)
  cases hb : validP ps
  · have HZ := Lib.hid (show drkV ps = 0 by unfold drkV; rw [hb]; rfl)
    have HC := Lib.hid (show lenC ps = 1 by unfold lenC; rw [hb]; rfl)
    rw [hb] at HV
    clear hb h
    go_enter Tryd.func18, Tryd.ntmps18
    go_wp2_with (go_at_call 21; refine HV.out.mono ?_; rintro e w1 ⟨rfl, rfl⟩)
    go_ret2
    exact ⟨retII HZ.out.symm HC.out.symm, Below.refl _ _⟩
  · have hv := validP_out hb
    have HS := Lib.hid (sonce_any v ps w h hv)
    have hP1 : 1 ≤ (onceL (tenL ps)).length := by rw [once_len hv.ten.pos]; exact (perL_is _ hv.ten.pos).pos
    have hP2 : (onceL (tenL ps)).length ≤ 600 := by rw [once_len hv.ten.pos]; exact Nat.le_trans (perL_is _ hv.ten.pos).le hv.ten.most
    have hdn := drk_norm hP1 (fun x hx => hv.ten.pic x (List.mem_of_mem_take hx))
    have HZ := Lib.hid (show drkV ps = (min (mxD ((onceL (tenL ps)).map unT) (2 * ((onceL (tenL ps)).map unT).length)) ((onceL (tenL ps)).map unT).length : Nat) by unfold drkV; rw [hb, hdn]; rfl)
    have HC := Lib.hid (show lenC ps = 0 by unfold lenC; rw [hb]; rfl)
    have hln : ((onceL (tenL ps)).map unT).length = (onceL (tenL ps)).length := List.length_map _
    rw [← hln] at hP1 hP2
    obtain ⟨l, ho⟩ : ∃ o, o = (onceL (tenL ps)).map unT := ⟨_, rfl⟩
    rw [← ho] at HS hP1 hP2 HZ
    rw [hb] at HV
    clear hb h hv ho hln hdn
    have hl0 : ¬ ((l.length : Int) == 0) = true := by simp only [beq_iff_eq]; omega
    go_enter Tryd.func18, Tryd.ntmps18
    go_wp2_with (first
      | (go_at_call 21; refine HV.out.mono ?_; rintro e w1 ⟨rfl, rfl⟩)
      | (go_at_call 35; refine HS.out.mono ?_; rintro e w2 ⟨g, cap, rfl, _, _, hc, hb⟩; have HB := Lib.hid hb; have HCE := Lib.hid hc; clear hb hc))
    go_loopw [5, 6, 7] (fun m q i wr => ∃ (k : Nat), k ≤ 2 * l.length ∧ m = .int .i64 (mxD l k) ∧ q = .int .i64 (nwD l k) ∧ i = .int .i64 k ∧ Below w2.heap.size w2 wr) (fun _ _ i _ => 2 * l.length - (intOf i).toNat)
    case atStart => exact ⟨0, Nat.zero_le _, rfl, rfl, rfl, Below.refl _ _⟩
    case round =>
      obtain ⟨k, hk, rfl, rfl, rfl, hbel⟩ := hrel
      have hmk := mxD_le l k
      have hnk := nwD_le l k
      by_cases hlt : k < 2 * l.length
      · have hkn : (k : Int) < 2 * (l.length : Int) := by omega
        have hm2 : k % l.length < l.length := Nat.mod_lt _ hP1
        have c0 := cell_below (HCE.out _ hm2) hbel
        rw [ever_at l] at c0
        have hI1 : (k : Int) % (l.length : Int) < (l.length : Int) := Int.emod_lt_of_pos _ (by omega)
        have hI2 : 0 ≤ (k : Int) % (l.length : Int) := Int.emod_nonneg _ (by omega)
        have hsn : nwD l (k + 1) = if ever l k = 0 then nwD l k + 1 else 0 := rfl
        have hsm : mxD l (k + 1) = max (mxD l k) (nwD l (k + 1)) := rfl
        have HB := Lib.hid hbel
        obtain ⟨m, hmm⟩ : ∃ m, m = mxD l k := ⟨_, rfl⟩
        obtain ⟨q, hqq⟩ : ∃ q, q = nwD l k := ⟨_, rfl⟩
        obtain ⟨x, hx⟩ : ∃ x, x = ever l k := ⟨_, rfl⟩
        rw [← hmm] at hmk hsm
        rw [← hqq] at hnk hsn
        have hq12 : q ≤ 1200 := by omega
        have hm12 : m ≤ 1200 := by omega
        rw [← hmm, ← hqq]
        clear hmk hnk
        rw [← hx] at c0 hsn
        have HMM := Lib.hid hmm
        have HQQ := Lib.hid hqq
        clear hbel hx
        by_cases ex : x = 0
        · have hbn : ((x.toNat : Int) != 0) = false := by rw [ex]; rfl
          rw [if_pos ex] at hsn
          rw [hsn] at hsm
          have HSN := Lib.hid hsn
          have HSM := Lib.hid hsm
          have HX := Lib.hid (fun w => smaxn_any m (q + 1) w)
          clear ex hsn hsm hmm hqq
          go_wp2_with (go_at_call 36; refine (HX.out _).mono ?_; rintro e w4 ⟨rfl, rfl⟩)
          refine ⟨⟨k + 1, by omega, by rw [HSM.out], by rw [HSN.out]; rfl, rfl, HB.out⟩, ?_⟩
          show 2 * l.length - ((k : Int) + 1).toNat < 2 * l.length - ((k : Int)).toNat
          omega
        · have hbn : ((x.toNat : Int) != 0) = true := by
            simp only [bne_iff_ne, ne_eq]
            exact fun q => ex (UInt8.toNat_inj.1 (by have : x.toNat = 0 := by omega
                                                     rw [this]; rfl))
          rw [if_neg ex] at hsn
          rw [hsn] at hsm
          have HSN := Lib.hid hsn
          have HSM := Lib.hid hsm
          have HX := Lib.hid (fun w => smaxn_any m 0 w)
          clear ex hsn hsm hmm hqq
          go_wp2_with (go_at_call 36; refine (HX.out _).mono ?_; rintro e w4 ⟨rfl, rfl⟩)
          refine ⟨⟨k + 1, by omega, by rw [HSM.out, Nat.max_zero], by rw [HSN.out]; rfl, rfl, HB.out⟩, ?_⟩
          show 2 * l.length - ((k : Int) + 1).toNat < 2 * l.length - ((k : Int)).toNat
          omega
      · have hkn : ¬ (k : Int) < 2 * (l.length : Int) := by omega
        have hke : k = 2 * l.length := by omega
        have HK := Lib.hid hke
        have HX := Lib.hid (fun w => sminn_any (mxD l k) l.length w)
        obtain ⟨m, hmm⟩ : ∃ m, m = mxD l k := ⟨_, rfl⟩
        have HMM := Lib.hid hmm
        rw [← hmm] at HX hmk
        rw [← hmm]
        have hm12 : m ≤ 1200 := by omega
        clear hke hmm hmk hnk
        go_wp2_with (go_at_call 37; refine (HX.out _).mono ?_; rintro e w4 ⟨rfl, rfl⟩)
        go_ret2
        exact ⟨retII (by rw [HZ.out, HMM.out, HK.out]) HC.out.symm, Below.trans HB.out (hbel.mono HB.out.size)⟩
set_option maxHeartbeats 1000000 in
theorem long_any (v : Value) (ps : List Ph) (w : World) (hm : ps.length ≤ 1048576) (h : PhAre w v ps) (hn : LenAt w) :
    Calls Tryd.prog 19 #[v] w fun e w' => e = .returned (.tuple #[.int .i64 (drkV ps), .int .i64 (lenC ps)]) ∧ Below w.heap.size w w' := by
  have HN := Lib.hid (nrm_any v ps w hm h hn)
  cases hb : validP ps
  · have HZ := Lib.hid (show drkV ps = 0 by unfold drkV; rw [hb]; rfl)
    have HC := Lib.hid (show lenC ps = 1 by unfold lenC; rw [hb]; rfl)
    rw [HC.out] at HN
    clear hb h hn
    go_enter Tryd.func19, Tryd.ntmps19
    go_wp2_with (go_at_call 15; refine HN.out.mono ?_; rintro e w1 ⟨v1, rfl, o, hb⟩; have HB := Lib.hid hb; clear o hb)
    go_ret2
    exact ⟨retII HZ.out.symm HC.out.symm, HB.out⟩
  · have hv := validP_out hb
    have hP1 : 1 ≤ (onceL (tenL ps)).length := by rw [once_len hv.ten.pos]; exact (perL_is _ hv.ten.pos).pos
    obtain ⟨c, m, t, hpt, hld⟩ := drk_first ((normL (onceL (tenL ps))).map unT) (by rw [List.length_map, normL_len]; exact hP1)
    have HZ := Lib.hid (show drkV ps = ((if c = 0 then m else 0 : Nat) : Int) by unfold drkV; rw [hb, hld]; rfl)
    have HC := Lib.hid (show lenC ps = 0 by unfold lenC; rw [hb]; rfl)
    rw [HC.out, show nrmV ps = nrmP ps by unfold nrmV; rw [hb]; rfl, show nrmP ps = (nameV c, (m : Int)) :: t from hpt] at HN
    have hni : (nameV c).toList.isEmpty = decide (c = 0) := by
      unfold nameV
      by_cases e : c = 0
      · rw [if_pos e, decide_eq_true e, show (⟨#[]⟩ : ByteArray).toList = [] by rw [ByteArray.toList_eq]]; rfl
      · rw [if_neg e, decide_eq_false e, show (⟨#[c]⟩ : ByteArray).toList = [c] by rw [ByteArray.toList_eq]]; rfl
    obtain ⟨L, hL⟩ : ∃ L, L = (nameV c, (m : Int)) :: t := ⟨_, rfl⟩
    have hL1 : 0 < L.length := by rw [hL]; simp
    have hg0 : L.getD 0 ph0 = (nameV c, (m : Int)) := by rw [hL]; rfl
    rw [← hL] at HN
    obtain ⟨x, hx⟩ : ∃ x, x = nameV c := ⟨_, rfl⟩
    rw [← hx] at hni hg0
    have HG0 := Lib.hid hg0
    clear hb h hn hv hP1 hpt hld hL hx hg0
    go_enter Tryd.func19, Tryd.ntmps19
    go_wp2_with (go_at_call 15; refine HN.out.mono ?_; rintro e w1 ⟨v1, rfl, o, hb⟩; refine Hid.out ?_)
    refine Lib.hid ?_
    obtain ⟨a, c2, rfl, ha⟩ := o.are
    obtain ⟨b, off, rfl, hc⟩ := ha.2.resolve_left (by intro e; rw [e] at hL1; simp at hL1)
    have c0 := (hc 0 hL1).1
    have c1 := (hc 0 hL1).2
    rw [HG0.out] at c0 c1
    simp only [Nat.zero_mul, Nat.add_zero] at c0 c1
    have HB1 := Lib.hid hb
    have hLi : (0 : Int) < (L.length : Int) := by omega
    clear o ha hc hb
    by_cases e0 : c = 0
    · have hxe : x.toList.isEmpty = true := by rw [hni, decide_eq_true e0]
      have HZ2 := Lib.hid (HZ.out.trans (by rw [if_pos e0]))
      clear hni e0
      go_wp2_with (fail)
      go_ret2
      exact ⟨retII HZ2.out.symm HC.out.symm, HB1.out⟩
    · have hxe : x.toList.isEmpty = false := by rw [hni, decide_eq_false e0]
      have HZ2 := Lib.hid (HZ.out.trans (by rw [if_neg e0]))
      clear hni e0
      go_wp2_with (fail)
      go_ret2
      exact ⟨retII HZ2.out.symm HC.out.symm, HB1.out⟩
end Go.Proofs.YtgcaipjknpcepabDoor
