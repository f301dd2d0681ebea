/- Reading a list of numbers: the program's. -/
import Derived.Test.YtlelcecbpahliaaGreatDoorReadS
import Derived.Test.YtlelcecbpahliaaGreatDoorNumI
namespace Go.Proofs.YtlelcecbpahliaaGreatDoor
open Go.ChangeShapes Go.WideShapes Go.ChangeAt Go.RowKit Pm

/-- The library's own variable holds some number. -/
def LenAt (w : World) : Prop := ∃ m, w.cell? ⟨Tryz.laysM146_ren.g 1, 0, none⟩ = some (.int .i64 m)
theorem LenAt.below {w w' : World} (h : LenAt w) (hb : Below w.heap.size w w') : LenAt w' := by
  obtain ⟨m, hm⟩ := h
  exact ⟨m, cell_below hm hb⟩
theorem len_of {w : World} (h : w.ShapedOpen Tryz.prog) : LenAt w := Tryz.laysM146.s1_3 w h

theorem split_any (s : ByteArray) (c : UInt8) (w : World) (hs : s.size ≤ 1048576) (hl : LenAt w) :
    Calls Tryz.prog 26 #[.string s, .string ⟨#[c]⟩] w (OwnRet 9 (strV (cutS c s)) w) := by
  obtain ⟨m, hm⟩ := hl
  have h := Any.strings_Split { Tryz.laysM146 with } Tryz.laysM146.i9 s ⟨#[c]⟩ m w (by omega) hm (Nat.le_refl 1)
  refine h.mono fun e w' ⟨he, hw⟩ => ?_
  rw [splitB_cut] at hw
  rw [← cutS_len] at he
  have hle := cutS_le c s
  have hsz : (strV (cutS c s)).toArray.size = (cutS c s).length := by simp [strV]
  refine ⟨_, he, ?_, by rw [hw]; exact (Below.refl _ _).alloc (Nat.le_refl _) _⟩
  rw [hw, strV_len]
  exact World.ownsRow_lit w (strV (cutS c s)).toArray (cutS c s).length (Nat.le_refl _) (by unfold maxLen; omega) (by simp [strV])

set_option maxRecDepth 100000 in
set_option maxHeartbeats 800000 in
theorem readlist_any (s : ByteArray) (w : World) (hs : s.size ≤ 1048576) (hL : LenAt w) (hP : PowAt w) (hE : ErrsAt w) :
    Calls Tryz.prog 69 #[.string s] w (RLRet s w) := by
  by_cases hd : s.data.toList = [45]
  · have hq := dash_yes hd
    have HR := Lib.hid (rl_dash hd)
    clear hd hL hP hE
    go_enter Tryz.func69, Tryz.ntmps69
    go_wp2
    go_ret2
    exact rlret HR.out (own_none _ _ _) (Below.refl _ _)
  · have hq := dash_no hd
    have HSP := Lib.hid (split_any s 44 w hs hL)
    have HPT := Lib.hid (cutS_part 44 s)
    have HPW := Lib.hid hP
    have HER := Lib.hid hE
    clear hL hP hE
    by_cases h64 : (cutS 44 s).length ≤ 64
    · obtain ⟨i0, hi, hz0, hz1, hz2⟩ := info_parts info64
      have HY := Lib.hid (rl_yes hd h64)
      have HN := Lib.hid (fun (h : (cutS 44 s).all numOk = false) => rl_no hd (show (decide ((cutS 44 s).length ≤ 64) && (cutS 44 s).all numOk) = false by rw [h, Bool.and_false]))
      have hpos : 0 < (cutS 44 s).length := by rw [cutS_len]; omega
      clear hd
      obtain ⟨ps, hps⟩ : ∃ ps, ps = cutS 44 s := ⟨_, rfl⟩
      rw [← hps] at HSP HPT HY HN h64 hpos
      clear hps
      go_enter Tryz.func69, Tryz.ntmps69
      go_wp2_with (go_at_call 26; refine HSP.out.mono ?_; rintro e w1 ⟨v1, rfl, ho1, hb1⟩; refine Hid.out ?_)
      refine Lib.hid ?_
      rw [strV_len] at ho1
      obtain ⟨g, cap, rfl, _, _⟩ := ho1.form hpos
      have HO1 := Lib.hid ho1
      have HB1 := Lib.hid hb1
      clear ho1 hb1
      go_wp2_with (at_make; refine wpList_make_full _ rfl _ _ 90 rfl w1.heap.size 2 i0 (.int .i64 0) 1 Tryz.underlying90 hi hz0 hz1 _ _ _ _ ps.length rfl rfl rfl rfl (by rw [hz2]; omega) (by unfold maxLen; omega) (Nat.le_refl _) ?_)
      intro w2 hown hg
      have hb : Below w1.heap.size w1 w2 := (Below.refl _ _).grown hg (Nat.le_refl _) (fun k hk => by cases hk)
      obtain ⟨xs0, hx0⟩ : ∃ xs0, xs0 = (madeCells #[Value.int .i64 0] ps.length).toList := ⟨_, rfl⟩
      rw [← hx0] at hown
      have hl0 : xs0.length = ps.length := by have := hown.1; omega
      have HO := Lib.hid hown
      have HB := Lib.hid hb
      clear hown hg hb hx0
      go_wp2_with (fail)
      go_loopw [22] (fun i wr => ∃ (k : Nat) (xs : List Value), k ≤ ps.length ∧ i = .int .i64 k ∧ (ps.take k).all numOk = true ∧ Upto xs k (intV (ps.map numP)) ∧ wr.ownsRow w1.heap.size 2 1 (.slice (some ⟨w1.heap.size, 0, none⟩) ps.length ps.length) ps.length xs ∧ Below w1.heap.size w1 wr) (fun i _ => ps.length - (intOf i).toNat)
      case atStart => exact ⟨0, xs0, Nat.zero_le _, rfl, rfl, ⟨by simpa [intV] using hl0, fun j hj => by omega⟩, HO.out, HB.out⟩
      case round =>
        obtain ⟨k, xs, hk, rfl, hall, hup, hown, hbel⟩ := hrel
        have HA := Lib.hid hall
        have HU := Lib.hid hup
        clear hall hup
        by_cases hlt : k < ps.length
        · have hcell := (own_below HO1.out hbel).cellAt k (by omega)
          rw [show (strV ps)[k]? = some (.string ps[k]) by simp [strV, hlt]] at hcell
          have HAT := Lib.hid (show (ps.take (k + 1)).all numOk = ((ps.take k).all numOk && numOk ps[k]) by rw [List.take_succ_eq_append_getElem hlt, List.all_append]; simp)
          have HNO := Lib.hid (fun (h : numOk ps[k] = false) => HN.out (numOk_no (p := ps[k]) k hlt rfl h))
          have hsz := HPT.out _ (List.getElem_mem hlt)
          have hst : (intV (ps.map numP))[k]? = some (.int .i64 (numP ps[k])) := by simp [intV, hlt]
          have hup2 := HU.out.step (u := .int .i64 (numP ps[k])) (by simpa [intV] using hlt) hst
          obtain ⟨p, hp⟩ : ∃ p, p = ps[k] := ⟨_, rfl⟩
          rw [← hp] at hcell HAT HNO hsz hup2
          clear hp hst
          have HRD := Lib.hid (fun w h1 h2 => readdec_any p w (by omega) h1 h2)
          obtain ⟨z, hz⟩ : ∃ z, z = numR p.data.toList := ⟨_, rfl⟩
          rw [show numP p = z from hz.symm] at hup2
          have HUP := Lib.hid hup2
          have HBR := Lib.hid hbel
          have HOW := Lib.hid hown
          clear hup2 hbel hown
          cases hc : canB p.data.toList
          · have hno := HNO.out (by unfold numOk; rw [hc]; rfl)
            rw [hc, ← hz] at HRD
            have HNO2 := Lib.hid hno
            clear hno hc hz
            go_wp2_with (first | (go_at_call 34; refine (HRD.out _ (PowAt.below HPW.out (HB1.out.trans (HBR.out.mono HB1.out.size))) (ErrsAt.below HER.out (HB1.out.trans (HBR.out.mono HB1.out.size)))).mono ?_; rintro e w3 ⟨rfl, hb3⟩; refine Hid.out ?_))
            refine Lib.hid ?_
            have HB3 := Lib.hid (HBR.out.trans (hb3.mono HBR.out.size))
            clear hb3
            go_wp2_with (fail)
            go_ret2
            exact rlret HNO2.out (own_none _ _ _) (HB1.out.trans (HB3.out.mono HB1.out.size))
          · rw [hc, ← hz] at HRD
            cases hin : inB (-1000000000000) 1000000000000 [z]
            · have HNO2 := Lib.hid (HNO.out (by unfold numOk; rw [hc, ← hz, hin]; rfl))
              clear hc hz
              go_wp2_with (first | (go_at_call 34; refine (HRD.out _ (PowAt.below HPW.out (HB1.out.trans (HBR.out.mono HB1.out.size))) (ErrsAt.below HER.out (HB1.out.trans (HBR.out.mono HB1.out.size)))).mono ?_; rintro e w3 ⟨rfl, hb3⟩; refine Hid.out ?_))
              refine Lib.hid ?_
              have HB3 := Lib.hid (HBR.out.trans (hb3.mono HBR.out.size))
              clear hb3
              have H1 := ints_one w3 .i64 z 2
              go_wp2_with (go_at_call 47; refine (within_any _ _ _ _ _ H1).mono ?_; rintro e w4 ⟨rfl, hw4⟩; refine Hid.out ?_)
              refine Lib.hid ?_
              have HB4 := Lib.hid (show Below w1.heap.size w1 w4 by rw [← hw4]; exact HB3.out.alloc HB3.out.size _)
              clear hw4 H1
              go_wp2_with (fail)
              go_ret2
              exact rlret HNO2.out (own_none _ _ _) (HB1.out.trans (HB4.out.mono HB1.out.size))
            · have HOK := Lib.hid (show numOk p = true by unfold numOk; rw [hc, ← hz, hin]; rfl)
              clear hc hz
              go_wp2_with (first | (go_at_call 34; refine (HRD.out _ (PowAt.below HPW.out (HB1.out.trans (HBR.out.mono HB1.out.size))) (ErrsAt.below HER.out (HB1.out.trans (HBR.out.mono HB1.out.size)))).mono ?_; rintro e w3 ⟨rfl, hb3⟩; refine Hid.out ?_))
              refine Lib.hid ?_
              have hown3 := own_below HOW.out hb3
              have hb3' := HBR.out.trans (hb3.mono HBR.out.size)
              have hown4 := own_below hown3 ((Below.refl _ _).alloc (Nat.le_refl _) (.cells #[Value.int .i64 z] 2))
              have HOW4 := Lib.hid hown4
              have HB3 := Lib.hid (hb3'.alloc hb3'.size (.cells #[Value.int .i64 z] 2))
              clear hb3 hb3' hown3 hown4
              have H1 := ints_one w3 .i64 z 2
              go_wp2_with (go_at_call 47; refine (within_any _ _ _ _ _ H1).mono ?_; rintro e w4 ⟨rfl, hw4⟩; refine Hid.out ?_)
              refine Lib.hid ?_
              have hown2 := HOW4.out
              have hbel2 := HB3.out
              rw [hw4] at hown2 hbel2
              have hold := hown2.cellAt k (by omega)
              rw [List.getElem?_eq_getElem (by have := HU.out.1; simp [intV] at this; omega)] at hold
              have hfz := hown2.frozenAt k
              have HST := Lib.hid (hown2.stored k (.int .i64 z)).1
              have HB2 := Lib.hid (hbel2.setCell (p := ⟨w1.heap.size, k, none⟩) (Nat.le_refl _) (.int .i64 z))
              clear hown2 hbel2 hw4 H1
              go_wp2_with (fail)
              go_roundw
              case rel => exact ⟨k + 1, _, by omega, by go_num, by rw [HAT.out, HA.out, HOK.out]; rfl, HUP.out, HST.out, HB2.out⟩
              case measure => simp [intOf]; omega
        · obtain rfl : k = ps.length := by omega
          have HFull := Lib.hid (HY.out (by rw [← HA.out, List.take_of_length_le (Nat.le_refl _)]))
          have hxs : xs = intV (ps.map numP) := by
            have h := HU.out
            rw [show ps.length = (intV (ps.map numP)).length by simp [intV]] at h
            exact h.all
          rw [hxs] at hown
          have HO := Lib.hid hown
          have HBR := Lib.hid hbel
          clear hown hxs hbel
          go_wp2
          go_ret2
          exact rlret HFull.out (own_mono HO.out HB1.out.size) (HB1.out.trans (HBR.out.mono HB1.out.size))
    · have HN := Lib.hid (rl_no hd (show (decide ((cutS 44 s).length ≤ 64) && (cutS 44 s).all numOk) = false by rw [decide_eq_false h64]; rfl))
      have hpos : 0 < (cutS 44 s).length := by omega
      have h65 : (64 : Int) < ((cutS 44 s).length : Int) := by omega
      clear hd h64
      obtain ⟨ps, hps⟩ : ∃ ps, ps = cutS 44 s := ⟨_, rfl⟩
      rw [← hps] at HSP h65 hpos
      clear hps
      go_enter Tryz.func69, Tryz.ntmps69
      go_wp2_with (go_at_call 26; refine HSP.out.mono ?_; rintro e w1 ⟨v1, rfl, ho1, hb1⟩; refine Hid.out ?_)
      refine Lib.hid ?_
      rw [strV_len] at ho1
      obtain ⟨g, cap, rfl, _, _⟩ := ho1.form hpos
      have HB1 := Lib.hid hb1
      clear ho1 hb1
      go_wp2_with (fail)
      go_ret2
      exact rlret HN.out (own_none _ _ _) HB1.out
end Go.Proofs.YtlelcecbpahliaaGreatDoor
