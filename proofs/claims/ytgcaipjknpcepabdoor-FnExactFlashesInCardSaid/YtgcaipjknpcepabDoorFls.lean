/- How often a light goes on: the model's and the program's. -/
import Derived.Test.YtgcaipjknpcepabDoorFlsM
import Derived.Test.YtgcaipjknpcepabDoorShf
namespace Go.Proofs.YtgcaipjknpcepabDoor
open Go.ChangeShapes Go.WideShapes Go.ChangeAt Go.RowKit Pm

set_option maxRecDepth 100000 in
set_option maxHeartbeats 2000000 in
theorem sfls_any (g cap : Nat) (l : List UInt8) (w : World) (hp : 1 ≤ l.length) (hq : l.length ≤ 600) (hc : BytAt w g l) :
    Calls Tryd.prog 34 #[.slice (some ⟨g, 0, none⟩) l.length cap] w fun e w' => e = .returned (.int .i64 (flsN l)) ∧ Below w.heap.size w w' := by
  have HC := Lib.hid hc
  clear hc
  have hl0 : ¬ ((l.length : Int) == 0) = true := by simp only [beq_iff_eq]; omega
  go_enter Tryd.func34, Tryd.ntmps34
  go_wp2_with (fail)
  go_loopw [3, 4] (fun m i wr => ∃ (k : Nat), k ≤ l.length ∧ m = .int .i64 (sumN (goesOn l) k) ∧ i = .int .i64 k ∧ Below w.heap.size w wr) (fun _ i _ => l.length - (intOf i).toNat)
  case atStart => exact ⟨0, Nat.zero_le _, rfl, rfl, Below.refl _ _⟩
  case round =>
    obtain ⟨k, hk, rfl, rfl, hbel⟩ := hrel
    by_cases hlt : k < l.length
    · have hkn : (k : Int) < (l.length : Int) := by omega
      have c0 := cell_below (HC.out k hlt) hbel
      have hm2 : (k + l.length - 1) % l.length < l.length := Nat.mod_lt _ hp
      have c1 := cell_below (HC.out _ hm2) hbel
      rw [ever_at l] at c1
      have e0 := ever_lt l k hlt
      have hml : sumN (goesOn l) k ≤ 600 := Nat.le_trans (sumN_le _ (goesOn_le l) k) (by omega)
      have hgo : goesOn l k = if ever l k ≠ 0 ∧ ever l (k + l.length - 1) = 0 then 1 else 0 := rfl
      have hsn : sumN (goesOn l) (k + 1) = sumN (goesOn l) k + goesOn l k := rfl
      rw [hgo, e0] at hsn
      have hpi : (k : Int) + (l.length : Int) - 1 = ((k + l.length - 1 : Nat) : Int) := by omega
      have HMI := Lib.hid hpi
      have hI1 : ((k : Int) + (l.length : Int) - 1) % (l.length : Int) < (l.length : Int) := Int.emod_lt_of_pos _ (by omega)
      have hI2 : 0 ≤ ((k : Int) + (l.length : Int) - 1) % (l.length : Int) := Int.emod_nonneg _ (by omega)
      have hI3 : (((k : Int) + (l.length : Int) - 1) % (l.length : Int)).toNat = (k + l.length - 1) % l.length := by rw [hpi]; omega
      obtain ⟨m, hmm⟩ : ∃ m, m = sumN (goesOn l) k := ⟨_, rfl⟩
      obtain ⟨x, hx⟩ : ∃ x, x = l[k] := ⟨_, rfl⟩
      obtain ⟨y, hy⟩ : ∃ y, y = ever l (k + l.length - 1) := ⟨_, rfl⟩
      rw [← hx] at c0 hsn
      rw [← hy] at c1 hsn
      rw [← hmm] at hsn hml
      have HSN := Lib.hid hsn
      have HMM := Lib.hid hmm
      have HB := Lib.hid hbel
      clear hsn hx hy hbel hgo e0 hpi
      by_cases ex : x = 0
      · have hbn : ((x.toNat : Int) != 0) = false := by rw [ex]; rfl
        have HS1 := Lib.hid (show sumN (goesOn l) (k + 1) = m by rw [HSN.out, if_neg (fun q => q.1 ex)]; rfl)
        clear ex
        go_wp2_with (fail)
        refine ⟨⟨k + 1, by omega, by rw [HS1.out, HMM.out], rfl, HB.out⟩, ?_⟩
        show l.length - ((k : Int) + 1).toNat < l.length - ((k : Int)).toNat
        omega
      · have hbn : ((x.toNat : Int) != 0) = true := by
          simp only [bne_iff_ne, ne_eq]
          exact fun q => ex (UInt8.toNat_inj.1 (by have : x.toNat = 0 := by omega
                                                   rw [this]; rfl))
        by_cases ey : y = 0
        · have hbe : ((y.toNat : Int) == 0) = true := by rw [ey]; rfl
          have HS1 := Lib.hid (show sumN (goesOn l) (k + 1) = m + 1 by rw [HSN.out, if_pos ⟨ex, ey⟩])
          clear ex ey
          go_wp2_with (fail)
          refine ⟨⟨k + 1, by omega, by rw [HS1.out, HMM.out]; rfl, rfl, HB.out⟩, ?_⟩
          show l.length - ((k : Int) + 1).toNat < l.length - ((k : Int)).toNat
          omega
        · have hbe : ((y.toNat : Int) == 0) = false := by
            rw [beq_eq_false_iff_ne]
            exact fun q => ey (UInt8.toNat_inj.1 (by have : y.toNat = 0 := by omega
                                                     rw [this]; rfl))
          have HS1 := Lib.hid (show sumN (goesOn l) (k + 1) = m by rw [HSN.out, if_neg (fun q => ey q.2)]; rfl)
          clear ex ey
          go_wp2_with (fail)
          refine ⟨⟨k + 1, by omega, by rw [HS1.out, HMM.out], rfl, HB.out⟩, ?_⟩
          show l.length - ((k : Int) + 1).toNat < l.length - ((k : Int)).toNat
          omega
    · have hkn : ¬ (k : Int) < (l.length : Int) := by omega
      go_wp2
      go_ret
      exact ⟨ret_i (by rw [show k = l.length by omega]; rfl), hbel⟩
theorem sflash_any (v : Value) (ps : List Ph) (w : World) (hm : ps.length ≤ 1048576) (h : PhAre w v ps) :
    Calls Tryd.prog 16 #[v] w fun e w' => e = .returned (.tuple #[.int .i64 (flsV ps), .int .i64 (lenC ps)]) ∧ Below w.heap.size w w' := by
  have HV := Lib.hid (sval_any v ps w hm h)
  cases hb : validP ps
  · have HZ := Lib.hid (show flsV ps = 0 by unfold flsV; rw [hb]; rfl)
    have HC := Lib.hid (show lenC ps = 1 by unfold lenC; rw [hb]; rfl)
    rw [hb] at HV
    clear hb h
    go_enter Tryd.func16, Tryd.ntmps16
    go_wp2_with (go_at_call 21; refine HV.out.mono ?_; rintro e w1 ⟨rfl, rfl⟩)
    go_ret2
    exact ⟨retII HZ.out.symm HC.out.symm, Below.refl _ _⟩
  · have hv := validP_out hb
    have HS := Lib.hid (sonce_any v ps w h hv)
    have hP1 : 1 ≤ (onceL (tenL ps)).length := by rw [once_len hv.ten.pos]; exact (perL_is _ hv.ten.pos).pos
    have hP2 : (onceL (tenL ps)).length ≤ 600 := by rw [once_len hv.ten.pos]; exact Nat.le_trans (perL_is _ hv.ten.pos).le hv.ten.most
    have HZ := Lib.hid (show flsV ps = (flsN ((onceL (tenL ps)).map unT) : Int) by unfold flsV; rw [hb]; rfl)
    have HC := Lib.hid (show lenC ps = 0 by unfold lenC; rw [hb]; rfl)
    have hln : ((onceL (tenL ps)).map unT).length = (onceL (tenL ps)).length := List.length_map _
    rw [← hln] at hP1 hP2
    obtain ⟨o, ho⟩ : ∃ o, o = (onceL (tenL ps)).map unT := ⟨_, rfl⟩
    rw [← ho] at HS hP1 hP2 HZ
    have HL := Lib.hid (fun w g cap hc => sfls_any g cap o w hP1 hP2 hc)
    obtain ⟨z, hz⟩ : ∃ z, z = flsN o := ⟨_, rfl⟩
    rw [← hz] at HL HZ
    rw [hb] at HV
    clear hb h hv ho hln hz
    go_enter Tryd.func16, Tryd.ntmps16
    go_wp2_with (first
      | (go_at_call 21; refine HV.out.mono ?_; rintro e w1 ⟨rfl, rfl⟩)
      | (go_at_call 35; refine HS.out.mono ?_; rintro e w2 ⟨g, cap, rfl, _, _, hc, hb⟩; have HB := Lib.hid hb; have HCE := Lib.hid hc; clear hb hc)
      | (go_at_call 34; refine (HL.out _ _ _ HCE.out).mono ?_; rintro e w3 ⟨rfl, hb⟩; have HB2 := Lib.hid (Below.next HB.out hb); clear hb))
    go_ret2
    exact ⟨retII HZ.out.symm HC.out.symm, HB2.out⟩
set_option maxRecDepth 100000 in
set_option maxHeartbeats 2000000 in
theorem flash_any (v : Value) (ps : List Ph) (w : World) (hm : ps.length ≤ 1048576) (h : PhAre w v ps) (hn : LenAt w) :
    Calls Tryd.prog 17 #[v] w fun e w' => e = .returned (.tuple #[.int .i64 (flsV ps), .int .i64 (lenC ps)]) ∧ Below w.heap.size w w' := by
  have HN := Lib.hid (nrm_any v ps w hm h hn)
  cases hb : validP ps
  · have HZ := Lib.hid (show flsV ps = 0 by unfold flsV; rw [hb]; rfl)
    have HC := Lib.hid (show lenC ps = 1 by unfold lenC; rw [hb]; rfl)
    rw [HC.out] at HN
    clear hb h hn
    go_enter Tryd.func17, Tryd.ntmps17
    go_wp2_with (go_at_call 15; refine HN.out.mono ?_; rintro e w1 ⟨v1, rfl, o, hb⟩; have HB := Lib.hid hb; clear o hb)
    go_ret2
    exact ⟨retII HZ.out.symm HC.out.symm, HB.out⟩
  · have hv := validP_out hb
    have hP1 : 1 ≤ (onceL (tenL ps)).length := by rw [once_len hv.ten.pos]; exact (perL_is _ hv.ten.pos).pos
    have hP2 : (onceL (tenL ps)).length ≤ 600 := by rw [once_len hv.ten.pos]; exact Nat.le_trans (perL_is _ hv.ten.pos).le hv.ten.most
    have hfn := fls_norm hP1 (fun x hx => hv.ten.pic x (List.mem_of_mem_take hx))
    have HZ := Lib.hid (show flsV ps = (linB ((nrmP ps).map litP) : Int) by unfold flsV nrmP; rw [hb, hfn]; rfl)
    have HC := Lib.hid (show lenC ps = 0 by unfold lenC; rw [hb]; rfl)
    have hL1 : 1 ≤ (nrmP ps).length := by
      unfold nrmP
      exact phsR_pos _ (by rw [List.length_map, normL_len]; exact hP1)
    have hL2 : (nrmP ps).length ≤ 600 := by
      unfold nrmP
      refine Nat.le_trans (phsR_len _) ?_
      rw [List.length_map, normL_len]; exact hP2
    rw [HC.out, show nrmV ps = nrmP ps by unfold nrmV; rw [hb]; rfl] at HN
    obtain ⟨L, hL⟩ : ∃ L, L = nrmP ps := ⟨_, rfl⟩
    rw [← hL] at HN HZ hL1 hL2
    clear hb h hn hv hP1 hP2 hfn hL
    go_enter Tryd.func17, Tryd.ntmps17
    go_wp2_with (go_at_call 15; refine HN.out.mono ?_; rintro e w1 ⟨v1, rfl, o, hb⟩; refine Hid.out ?_)
    refine Lib.hid ?_
    obtain ⟨a, c, rfl, ha⟩ := o.are
    obtain ⟨b, off, rfl, hc⟩ := ha.2.resolve_left (by intro e; rw [e] at hL1; simp at hL1)
    have HC1 := Lib.hid hc
    have HB1 := Lib.hid hb
    clear o ha hc hb
    go_wp2_with (fail)
    go_loopw [6, 19] (fun m i wr => ∃ (k : Nat), k ≤ L.length ∧ m = .int .i64 (linB ((L.map litP).take k)) ∧ i = .int .i64 k ∧ Below w1.heap.size w1 wr) (fun _ i _ => L.length - (intOf i).toNat)
    case atStart => exact ⟨0, Nat.zero_le _, rfl, rfl, Below.refl _ _⟩
    case round =>
      obtain ⟨k, hk, rfl, rfl, hbel⟩ := hrel
      have hll : (L.map litP).length = L.length := List.length_map _
      by_cases hlt : k < L.length
      · have hkn : (k : Int) < (L.length : Int) := by omega
        have c0 := cell_below (HC1.out k hlt).1 hbel
        have c1 := cell_below (HC1.out k hlt).2 hbel
        have hlx : (L.map litP)[k]'(by omega) = !(L.getD k ph0).1.toList.isEmpty := by
          rw [List.getElem_map, ph_getD L k hlt]
          unfold litP
          cases (L[k]).1.toList <;> rfl
        have hml : linB ((L.map litP).take k) ≤ 600 := Nat.le_trans (linB_le _) (by rw [List.length_take]; omega)
        have HB := Lib.hid hbel
        have hblk : b < wr.heap.size := Nat.lt_of_lt_of_le (World.block_lt_of_cell? _ _ (HC1.out k hlt).1) hbel.size
        obtain ⟨m, hmm⟩ : ∃ m, m = linB ((L.map litP).take k) := ⟨_, rfl⟩
        rw [← hmm] at hml
        have HMM := Lib.hid hmm
        have hst := linB_take (L.map litP)
        by_cases hk0 : k = 0
        · have HS1 := Lib.hid (show linB ((L.map litP).take (k + 1)) = m by rw [hmm, hk0]; exact linB_one _)
          have hk0n : ¬ 0 < k := by omega
          generalize L.getD k ph0 = p at c0 c1 hlx
          obtain ⟨x, y⟩ := p
          simp only at c0 c1
          clear hst hlx hbel hk0
          cases hxe : x.toList.isEmpty
          · go_wp2_with (fail)
            refine ⟨⟨k + 1, by omega, by rw [HS1.out, HMM.out], rfl, HB.out.alloc HB.out.size _⟩, ?_⟩
            show L.length - ((k : Int) + 1).toNat < L.length - ((k : Int)).toNat
            omega
          · go_wp2_with (fail)
            refine ⟨⟨k + 1, by omega, by rw [HS1.out, HMM.out], rfl, HB.out.alloc HB.out.size _⟩, ?_⟩
            show L.length - ((k : Int) + 1).toNat < L.length - ((k : Int)).toNat
            omega
        · obtain ⟨j, rfl⟩ : ∃ j, k = j + 1 := ⟨k - 1, by omega⟩
          have hlz : (L.map litP)[j]'(by omega) = !(L.getD j ph0).1.toList.isEmpty := by
            rw [List.getElem_map, ph_getD L j (by omega)]
            unfold litP
            cases (L[j]).1.toList <;> rfl
          have cz := cell_below (HC1.out j (by omega)).1 hbel
          have hsn := hst j (by omega)
          rw [hlx, hlz, ← hmm] at hsn
          generalize L.getD (j + 1) ph0 = p at c0 c1 hsn
          obtain ⟨x, y⟩ := p
          generalize (L.getD j ph0).1 = z at cz hsn
          simp only at c0 c1 hsn
          have HSN := Lib.hid hsn
          clear hst hlx hlz hbel hsn
          cases hxe : x.toList.isEmpty
          · cases hze : z.toList.isEmpty
            · go_wp2_with (fail)
              refine ⟨⟨j + 1 + 1, by omega, by rw [HSN.out, hxe, hze, HMM.out]; rfl, rfl, HB.out.alloc HB.out.size _⟩, ?_⟩
              show L.length - ((j : Int) + 1 + 1).toNat < L.length - (((j + 1 : Nat) : Int)).toNat
              omega
            · go_wp2_with (fail)
              refine ⟨⟨j + 1 + 1, by omega, by rw [HSN.out, hxe, hze, HMM.out]; rfl, rfl, HB.out.alloc HB.out.size _⟩, ?_⟩
              show L.length - ((j : Int) + 1 + 1).toNat < L.length - (((j + 1 : Nat) : Int)).toNat
              omega
          · go_wp2_with (fail)
            refine ⟨⟨j + 1 + 1, by omega, by rw [HSN.out, hxe, HMM.out]; cases z.toList.isEmpty <;> rfl, rfl, HB.out.alloc HB.out.size _⟩, ?_⟩
            show L.length - ((j : Int) + 1 + 1).toNat < L.length - (((j + 1 : Nat) : Int)).toNat
            omega
      · have hkn : ¬ (k : Int) < (L.length : Int) := by omega
        go_wp2_with (fail)
        go_ret2
        exact ⟨retII (by rw [HZ.out, List.take_of_length_le (by omega)]) HC.out.symm, HB1.out.trans (hbel.mono HB1.out.size)⟩
end Go.Proofs.YtgcaipjknpcepabDoor
