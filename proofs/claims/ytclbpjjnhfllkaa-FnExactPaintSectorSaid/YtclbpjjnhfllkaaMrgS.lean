/- Merged, dark, painted: the model's. -/
import Derived.Test.YtclbpjjnhfllkaaTrnS
import Derived.Test.YtclbpjjnhfllkaaSimT
namespace Go.Proofs.Ytclbpjjnhfllkaa
open Go.ChangeShapes Go.WideShapes Go.ChangeAt Go.RowKit Pm

theorem turnL_none {L : List ByteArray} (h : L.length = 360) : turnL L 0 = L := by
  apply List.ext_getElem
  · unfold turnL; rw [turnK_len, h]
  · intro i h1 h2
    have h3 : i < 360 := by omega
    have e : (i + 360 - 0) % 360 = i := by omega
    simp only [turnL, turnK, List.getElem_map, List.getElem_range, e]
    rw [if_pos h3]
    simp [h2]
noncomputable def drkV (ps : List Sec) : List Sec := if validS ps then simpV (cF (circL ps)) true else []
def pntOk (p : Sec) : Bool := endsB p && (drk p.2.2 || colB p.2.2)
def pntL (ps : List Sec) (p : Sec) : List ByteArray := paintK (circL ps) p.1 p.2.2 (arcS p)
noncomputable def pntS (ps : List Sec) (p : Sec) : List Sec := simpV (cF (pntL ps p)) false
noncomputable def pntV (ps : List Sec) (p : Sec) : List Sec := if validS ps && pntOk p then (if (pntS ps p).length ≤ 12 then pntS ps p else []) else []
noncomputable def pntC (ps : List Sec) (p : Sec) : Int := if validS ps then (if pntOk p then (if (pntS ps p).length ≤ 12 then 0 else 5) else 2) else 1

theorem smerge_any (v : Value) (ps : List Sec) (w : World) (hm : ps.length ≤ 1048576) (h : SecAre w v ps) :
    Calls Try.prog 34 #[v] w (OwnSC (trnV ps 0) (valC ps) w) := by
  have HS := Lib.hid (sokay_any v ps w hm h)
  cases hv : validS ps
  · rw [hv] at HS
    have H1 := Lib.hid (show trnV ps 0 = [] by unfold trnV; rw [hv]; rfl)
    have H2 := Lib.hid (show valC ps = 1 by unfold valC; rw [hv]; rfl)
    clear h
    go_enter Try.func34, Try.ntmps34
    go_wp2_with (go_at_call 42; refine HS.out.mono ?_; rintro e w1 ⟨rfl, m, rfl⟩)
    go_ret2
    exact ownsc_no H1.out H2.out (below_drewN (Below.refl _ _) m)
  · rw [hv] at HS
    have H1 := Lib.hid (show trnV ps 0 = simpV (cF (circL ps)) false by
      unfold trnV
      rw [hv, if_pos rfl, show (ang 0).toNat = 0 from rfl, turnL_none (circL_len ps)])
    have H2 := Lib.hid (show valC ps = 0 by unfold valC; rw [hv]; rfl)
    have HC := Lib.hid (fun w' (hb : Below w.heap.size w w') => scircle_any v ps w' (validS_iff.1 hv) (h.below hb))
    obtain ⟨L, hL⟩ : ∃ L, L = circL ps := ⟨_, rfl⟩
    rw [← hL] at HC H1
    clear h hv hL
    go_enter Try.func34, Try.ntmps34
    go_wp2_with (go_at_call 42; refine HS.out.mono ?_; rintro e w1 ⟨rfl, m, rfl⟩; refine Hid.out ?_)
    refine Lib.hid ?_
    have HB := Lib.hid (below_drewN (Below.refl w.heap.size w) m)
    go_wp2_with (go_at_call 49; refine (HC.out _ HB.out).mono ?_; rintro e w2 ⟨g, rfl, ho, hb⟩; refine Hid.out ?_)
    refine Lib.hid ?_
    have HB := Lib.hid (Below.next HB.out hb)
    have HSM := Lib.hid (ssimple_false g _ L w2 ho)
    rw [← H1.out] at HSM
    clear ho hb HS HC
    go_wp2_with (go_at_call 52; refine HSM.out.mono ?_; rintro e w5 ⟨v5, rfl, ho, hb⟩; refine Hid.out ?_)
    refine Lib.hid ?_
    have HO5 := Lib.hid (ho.mono HB.out.size)
    have HB5 := Lib.hid (Below.next HB.out hb)
    clear ho hb
    go_wp2_with (fail)
    go_ret2
    exact ⟨_, by rw [H2.out]; rfl, HO5.out, HB5.out⟩
theorem sdark_any (v : Value) (ps : List Sec) (w : World) (hm : ps.length ≤ 1048576) (h : SecAre w v ps) :
    Calls Try.prog 30 #[v] w (OwnSC (drkV ps) (valC ps) w) := by
  have HS := Lib.hid (sokay_any v ps w hm h)
  cases hv : validS ps
  · rw [hv] at HS
    have H1 := Lib.hid (show drkV ps = [] by unfold drkV; rw [hv]; rfl)
    have H2 := Lib.hid (show valC ps = 1 by unfold valC; rw [hv]; rfl)
    clear h
    go_enter Try.func30, Try.ntmps30
    go_wp2_with (go_at_call 42; refine HS.out.mono ?_; rintro e w1 ⟨rfl, m, rfl⟩)
    go_ret2
    exact ownsc_no H1.out H2.out (below_drewN (Below.refl _ _) m)
  · rw [hv] at HS
    have H1 := Lib.hid (show drkV ps = simpV (cF (circL ps)) true by unfold drkV; rw [hv]; rfl)
    have H2 := Lib.hid (show valC ps = 0 by unfold valC; rw [hv]; rfl)
    have HC := Lib.hid (fun w' (hb : Below w.heap.size w w') => scircle_any v ps w' (validS_iff.1 hv) (h.below hb))
    obtain ⟨L, hL⟩ : ∃ L, L = circL ps := ⟨_, rfl⟩
    rw [← hL] at HC H1
    clear h hv hL
    go_enter Try.func30, Try.ntmps30
    go_wp2_with (go_at_call 42; refine HS.out.mono ?_; rintro e w1 ⟨rfl, m, rfl⟩; refine Hid.out ?_)
    refine Lib.hid ?_
    have HB := Lib.hid (below_drewN (Below.refl w.heap.size w) m)
    go_wp2_with (go_at_call 49; refine (HC.out _ HB.out).mono ?_; rintro e w2 ⟨g, rfl, ho, hb⟩; refine Hid.out ?_)
    refine Lib.hid ?_
    have HB := Lib.hid (Below.next HB.out hb)
    have HSM := Lib.hid (ssimple_true g _ L w2 ho)
    rw [← H1.out] at HSM
    clear ho hb HS HC
    go_wp2_with (go_at_call 52; refine HSM.out.mono ?_; rintro e w5 ⟨v5, rfl, ho, hb⟩; refine Hid.out ?_)
    refine Lib.hid ?_
    have HO5 := Lib.hid (ho.mono HB.out.size)
    have HB5 := Lib.hid (Below.next HB.out hb)
    clear ho hb
    go_wp2_with (fail)
    go_ret2
    exact ⟨_, by rw [H2.out]; rfl, HO5.out, HB5.out⟩
theorem OwnC.base {w : World} {B B' g n cap : Nat} {L : List ByteArray} (h : OwnC w B g n cap L) (hB : B' ≤ g) : OwnC w B' g n cap L := by
  refine ⟨h.1, ?_⟩
  rcases h.2 with h2 | ⟨g2, cap2, cur, h1, h3, h4⟩
  · exact .inl h2
  · have e : g2 = g := by simp at h1; omega
    exact .inr ⟨g2, cap2, cur, h1, by omega, h4⟩
theorem pntOk_arc {p : Sec} (h : pntOk p = true) : endsB p = true ∧ (drk p.2.2 = true ∨ colB p.2.2 = true) := by
  simpa [pntOk] using h
theorem simp_len (c : Nat → ByteArray) (dark : Bool) : (simpV c dark).length ≤ 360 := by
  unfold simpV
  split
  · simp
  · exact arcsOf_len c dark 360
set_option maxRecDepth 100000 in
set_option maxHeartbeats 2000000 in
theorem spaint_any (v : Value) (ps : List Sec) (f t : Int) (x : ByteArray) (w : World) (hm : ps.length ≤ 1048576) (h : SecAre w v ps) :
    Calls Try.prog 36 #[v, .agg #[.int .i64 f, .int .i64 t, .string x]] w (OwnSC (pntV ps (f, t, x)) (pntC ps (f, t, x)) w) := by
  have hbx : Below w.heap.size w (w.alloc (.cells #[.int .i64 f, .int .i64 t, .string x] 26)) := (Below.refl _ _).alloc (Nat.le_refl _) _
  have HSX := Lib.hid (show SecAt (w.alloc (.cells #[.int .i64 f, .int .i64 t, .string x] 26)) w.heap.size 0 (f, t, x) from ⟨by simp, by simp, by simp⟩)
  have HB0 := Lib.hid hbx
  have HS := Lib.hid (sokay_any v ps _ hm (h.below hbx))
  cases hv : validS ps
  · rw [hv] at HS
    have H1 := Lib.hid (show pntV ps (f, t, x) = [] by unfold pntV; rw [hv]; rfl)
    have H2 := Lib.hid (show pntC ps (f, t, x) = 1 by unfold pntC; rw [hv]; rfl)
    clear h hbx
    go_enter Try.func36, Try.ntmps36
    go_wp2_with (go_at_call 42; refine HS.out.mono ?_; rintro e w1 ⟨rfl, m, rfl⟩; have AC := Lib.hid (below_drewN HB0.out m))
    go_ret2
    exact ownsc_no H1.out H2.out AC.out
  rw [hv] at HS
  have HDK := Lib.hid (show drk x = x.toList.isEmpty from rfl)
  have HPO := Lib.hid (show pntOk (f, t, x) = (endsB (f, t, x) && (drk x || colB x)) from rfl)
  have HE := Lib.hid (fun b w (hx : SecAt w b 0 (f, t, x)) => sends_any b 0 (f, t, x) w hx)
  have HCO := Lib.hid (fun w => scolor_any x w)
  cases he : endsB (f, t, x)
  · rw [he] at HE
    have hp : pntOk (f, t, x) = false := by rw [HPO.out, HDK.out]; simp [he]
    have H1 := Lib.hid (show pntV ps (f, t, x) = [] by unfold pntV; rw [hv, hp]; rfl)
    have H2 := Lib.hid (show pntC ps (f, t, x) = 2 by unfold pntC; rw [hv, hp]; rfl)
    clear hp h hbx hv
    go_enter Try.func36, Try.ntmps36
    go_wp2_with (go_at_call 42; refine HS.out.mono ?_; rintro e w1 ⟨rfl, m, rfl⟩; refine Hid.out ?_)
    refine Lib.hid ?_
    have AC := Lib.hid (below_drewN HB0.out m)
    have HSX := Lib.hid (HSX.out.drewN m)
    obtain ⟨k0, k1, k2⟩ := HSX.out
    go_wp2_with (first
      | (go_at_call 45; refine (HE.out _ _ HSX.out).mono ?_; rintro e w2 ⟨rfl, rfl⟩)
      | (go_at_call 59; refine (HCO.out _).mono ?_; rintro e w2 ⟨rfl, rfl⟩))
    go_ret2
    exact ownsc_no H1.out H2.out AC.out
  · rw [he] at HE
    cases hd : x.toList.isEmpty
    · cases hc : colB x
      · rw [hc] at HCO
        have hp : pntOk (f, t, x) = false := by rw [HPO.out, HDK.out]; simp [hd, hc]
        have H1 := Lib.hid (show pntV ps (f, t, x) = [] by unfold pntV; rw [hv, hp]; rfl)
        have H2 := Lib.hid (show pntC ps (f, t, x) = 2 by unfold pntC; rw [hv, hp]; rfl)
        clear hp h hbx hv
        go_enter Try.func36, Try.ntmps36
        go_wp2_with (go_at_call 42; refine HS.out.mono ?_; rintro e w1 ⟨rfl, m, rfl⟩; refine Hid.out ?_)
        refine Lib.hid ?_
        have AC := Lib.hid (below_drewN HB0.out m)
        have HSX := Lib.hid (HSX.out.drewN m)
        obtain ⟨k0, k1, k2⟩ := HSX.out
        go_wp2_with (first
          | (go_at_call 45; refine (HE.out _ _ HSX.out).mono ?_; rintro e w2 ⟨rfl, rfl⟩)
          | (go_at_call 59; refine (HCO.out _).mono ?_; rintro e w2 ⟨rfl, rfl⟩))
        go_ret2
        exact ownsc_no H1.out H2.out AC.out
      · rw [hc] at HCO
        have hp : pntOk (f, t, x) = true := by rw [HPO.out, HDK.out]; simp [he, hc]
        have H1 := Lib.hid (show pntV ps (f, t, x) = if (pntS ps (f, t, x)).length ≤ 12 then pntS ps (f, t, x) else [] by unfold pntV; rw [hv, hp]; rfl)
        have H2 := Lib.hid (show pntC ps (f, t, x) = if (pntS ps (f, t, x)).length ≤ 12 then 0 else 5 by unfold pntC; rw [hv, hp]; rfl)
        have hsl : (pntS ps (f, t, x)).length ≤ 360 := simp_len _ _
        have HC := Lib.hid (fun w' (hb : Below w.heap.size w w') => scircle_any v ps w' (validS_iff.1 hv) (h.below hb))
        have hLl := circL_len ps
        have HPS := Lib.hid (show pntS ps (f, t, x) = simpV (cF (paintK (circL ps) f x (arcS (f, t, x)))) false from rfl)
        obtain ⟨b0, b1⟩ := arcS_bd (f, t, x)
        have hef : 0 ≤ f ∧ f ≤ 359 := by
          have : endsB (f, t, x) = true := he
          simp only [endsB, Bool.and_eq_true, inD_iff] at this
          exact this.1
        obtain ⟨f0, f1⟩ := hef
        have HA := Lib.hid (fun b w (hx : SecAt w b 0 (f, t, x)) => sarc_any b 0 (f, t, x) w hx he)
        rw [show arcV (f, t, x).1 (f, t, x).2.1 = arcS (f, t, x) by unfold arcS; rw [he]; rfl] at HA
        generalize pntS ps (f, t, x) = R at *
        generalize arcS (f, t, x) = y at *
        obtain ⟨L, hL⟩ : ∃ L, L = circL ps := ⟨_, rfl⟩
        rw [← hL] at HC HPS hLl
        clear hp h hbx hv hL
        go_enter Try.func36, Try.ntmps36
        go_wp2_with (go_at_call 42; refine HS.out.mono ?_; rintro e w1 ⟨rfl, m, rfl⟩; refine Hid.out ?_)
        refine Lib.hid ?_
        have AC := Lib.hid (below_drewN HB0.out m)
        have HSX := Lib.hid (HSX.out.drewN m)
        obtain ⟨k0, k1, k2⟩ := HSX.out
        go_wp2_with (first
          | (go_at_call 45; refine (HE.out _ _ HSX.out).mono ?_; rintro e w2 ⟨rfl, rfl⟩)
          | (go_at_call 59; refine (HCO.out _).mono ?_; rintro e w2 ⟨rfl, rfl⟩)
          | (go_at_call 49; refine (HC.out _ AC.out).mono ?_; rintro e w2 ⟨g, rfl, ho, hb⟩; refine Hid.out ?_))
        refine Lib.hid ?_
        have HSX := Lib.hid (HSX.out.below hb)
        have AC := Lib.hid (Below.next AC.out hb)
        have HW2 := Lib.hid (show w.heap.size < w2.heap.size from lt_of_cellq HSX.out.1)
        have hgw : w.heap.size ≠ g := by
          have h1 := ho.ge
          have h2 : w.heap.size < (w.alloc (.cells #[.int .i64 f, .int .i64 t, .string x] 26)).heap.size := by simp
          have h3 : ∀ (w : World) (m : Nat), (w.drewN m).heap.size = w.heap.size := fun w m => rfl
          rw [h3] at h1
          omega
        have hgb : w.heap.size ≤ g := by
          have h1 := ho.ge
          have h2 : w.heap.size < (w.alloc (.cells #[.int .i64 f, .int .i64 t, .string x] 26)).heap.size := by simp
          have h3 : ∀ (w : World) (m : Nat), (w.drewN m).heap.size = w.heap.size := fun w m => rfl
          rw [h3] at h1
          omega
        have HO := Lib.hid (OwnC.base ho hgb)
        clear ho hb k0 k1 k2 HC
        go_wp2_with (fail)
        go_loopw [7] (fun i wr => ∃ j : Nat, (j : Int) ≤ y ∧ i = .int .i64 j ∧ OwnC wr w.heap.size g 360 360 (paintK L f x j) ∧ SecAt wr w.heap.size 0 (f, t, x) ∧ Below w.heap.size w wr) (fun i _ => y.toNat - (intOf i).toNat)
        case atStart => exact ⟨0, by omega, rfl, by have e := paintK_zero hLl f x; exact e.symm ▸ HO.out, HSX.out, AC.out⟩
        case round =>
          obtain ⟨j, hj, rfl, ho, hsx, hbel⟩ := hrel
          have HAJ := Lib.hid (HA.out _ _ hsx)
          have HO2 := Lib.hid ho
          have HB2 := Lib.hid hbel
          have HSX2 := Lib.hid hsx
          by_cases hjy : (j : Int) < y
          · obtain ⟨q, hq⟩ : ∃ q : Nat, (q : Int) = (f + j) % 360 := ⟨((f + j) % 360).toNat, by omega⟩
            have hidx : (f + (j : Int)).tmod 360 = (q : Int) := by rw [Int.tmod_eq_emod_of_nonneg (by omega), hq]
            have hq1 : q < 360 := by omega
            have hq2 : (q : Int) < 360 := by omega
            have HST := Lib.hid (paintK_step L (f := f) x (k := (j : Int)) (by omega) (by omega) q hq)
            clear ho hbel hq hsx
            go_wp2_with (go_at_call 46; refine HAJ.out.mono ?_; rintro e w5 ⟨rfl, m5, rfl⟩; refine Hid.out ?_)
            refine Lib.hid ?_
            have HO5 := Lib.hid (HO2.out.below (below_drewN (Below.refl _ _) m5))
            have HB5 := Lib.hid (below_drewN HB2.out m5)
            have HSX5 := Lib.hid (HSX2.out.drewN m5)
            obtain ⟨w6, hw6⟩ : ∃ w6, w6 = wr.drewN m5 := ⟨_, rfl⟩
            rw [← hw6] at HO5 HB5 HSX5 ⊢
            obtain ⟨k0, k1, k2⟩ := HSX5.out
            have o0 := HO5.out.cell q hq1
            have fz := HO5.out.frozen q
            generalize (paintK L f x j).getD q e0 = z at o0
            have HST2 := Lib.hid (show OwnC (w6.setCell ⟨g, q, none⟩ (.string x)) w.heap.size g 360 360 (paintK L f x ((j + 1 : Nat) : Int)) by
              have h := HO5.out.put q x
              rw [HST.out] at h
              exact h)
            have HSX6 := Lib.hid (show SecAt (w6.setCell ⟨g, q, none⟩ (.string x)) w.heap.size 0 (f, t, x) from ⟨cell_puts hgw k0, cell_puts hgw k1, cell_puts hgw k2⟩)
            have HB6 := Lib.hid (HB5.out.setCell (p := ⟨g, q, none⟩) HO5.out.ge (.string x))
            clear hw6 HSX2 HAJ
            go_wp2_with (fail)
            go_roundw
            case rel => exact ⟨j + 1, by omega, by go_num, HST2.out, HSX6.out, HB6.out⟩
            case measure => simp [intOf]; omega
          · obtain rfl : (j : Int) = y := by omega
            clear ho hbel hsx
            go_wp2_with (go_at_call 46; refine HAJ.out.mono ?_; rintro e w5 ⟨rfl, m5, rfl⟩; refine Hid.out ?_)
            refine Lib.hid ?_
            have HO5 := Lib.hid (HO2.out.below (below_drewN (Below.refl _ _) m5))
            have HB5 := Lib.hid (below_drewN HB2.out m5)
            have HSM := Lib.hid (fun w6 (h : OwnC w6 w.heap.size g 360 360 (paintK L f x j)) => ssimple_false g w.heap.size (paintK L f x j) w6 h)
            rw [← HPS.out] at HSM
            by_cases h12 : R.length ≤ 12
            · rw [if_pos h12] at H1 H2
              have h12i : ¬ (12 : Int) < (R.length : Int) := by omega
              go_wp2_with (go_at_call 52; refine (HSM.out _ HO5.out).mono ?_; rintro e w7 ⟨v7, rfl, ho, hb⟩; refine Hid.out ?_)
              refine Lib.hid ?_
              have HO7 := Lib.hid (ho.mono HB5.out.size)
              have HB7 := Lib.hid (Below.next HB5.out hb)
              rcases ho.form with ⟨rfl, hR⟩ | ⟨g7, cap7, rfl, _⟩
              · clear ho hb
                go_wp2_with (fail)
                go_ret2
                exact ⟨_, by rw [H2.out]; rfl, by rw [H1.out]; exact HO7.out, HB7.out⟩
              · clear ho hb
                go_wp2_with (fail)
                go_ret2
                exact ⟨_, by rw [H2.out]; rfl, by rw [H1.out]; exact HO7.out, HB7.out⟩
            · rw [if_neg h12] at H1 H2
              have h12i : (12 : Int) < (R.length : Int) := by omega
              go_wp2_with (go_at_call 52; refine (HSM.out _ HO5.out).mono ?_; rintro e w7 ⟨v7, rfl, ho, hb⟩; refine Hid.out ?_)
              refine Lib.hid ?_
              have HB7 := Lib.hid (Below.next HB5.out hb)
              rcases ho.form with ⟨_, hR⟩ | ⟨g7, cap7, rfl, _⟩
              · exact absurd (show R.length ≤ 12 by rw [hR]; simp) h12
              · clear ho hb
                go_wp2_with (fail)
                go_ret2
                exact ownsc_no H1.out H2.out HB7.out
    · clear HCO
      have HCO := Lib.hid (fun w => scolor_any x w)
      have hp : pntOk (f, t, x) = true := by rw [HPO.out, HDK.out]; simp [he, hd]
      have H1 := Lib.hid (show pntV ps (f, t, x) = if (pntS ps (f, t, x)).length ≤ 12 then pntS ps (f, t, x) else [] by unfold pntV; rw [hv, hp]; rfl)
      have H2 := Lib.hid (show pntC ps (f, t, x) = if (pntS ps (f, t, x)).length ≤ 12 then 0 else 5 by unfold pntC; rw [hv, hp]; rfl)
      have hsl : (pntS ps (f, t, x)).length ≤ 360 := simp_len _ _
      have HC := Lib.hid (fun w' (hb : Below w.heap.size w w') => scircle_any v ps w' (validS_iff.1 hv) (h.below hb))
      have hLl := circL_len ps
      have HPS := Lib.hid (show pntS ps (f, t, x) = simpV (cF (paintK (circL ps) f x (arcS (f, t, x)))) false from rfl)
      obtain ⟨b0, b1⟩ := arcS_bd (f, t, x)
      have hef : 0 ≤ f ∧ f ≤ 359 := by
        have : endsB (f, t, x) = true := he
        simp only [endsB, Bool.and_eq_true, inD_iff] at this
        exact this.1
      obtain ⟨f0, f1⟩ := hef
      have HA := Lib.hid (fun b w (hx : SecAt w b 0 (f, t, x)) => sarc_any b 0 (f, t, x) w hx he)
      rw [show arcV (f, t, x).1 (f, t, x).2.1 = arcS (f, t, x) by unfold arcS; rw [he]; rfl] at HA
      generalize pntS ps (f, t, x) = R at *
      generalize arcS (f, t, x) = y at *
      obtain ⟨L, hL⟩ : ∃ L, L = circL ps := ⟨_, rfl⟩
      rw [← hL] at HC HPS hLl
      clear hp h hbx hv hL
      go_enter Try.func36, Try.ntmps36
      go_wp2_with (go_at_call 42; refine HS.out.mono ?_; rintro e w1 ⟨rfl, m, rfl⟩; refine Hid.out ?_)
      refine Lib.hid ?_
      have AC := Lib.hid (below_drewN HB0.out m)
      have HSX := Lib.hid (HSX.out.drewN m)
      obtain ⟨k0, k1, k2⟩ := HSX.out
      go_wp2_with (first
        | (go_at_call 45; refine (HE.out _ _ HSX.out).mono ?_; rintro e w2 ⟨rfl, rfl⟩)
        | (go_at_call 59; refine (HCO.out _).mono ?_; rintro e w2 ⟨rfl, rfl⟩)
        | (go_at_call 49; refine (HC.out _ AC.out).mono ?_; rintro e w2 ⟨g, rfl, ho, hb⟩; refine Hid.out ?_))
      refine Lib.hid ?_
      have HSX := Lib.hid (HSX.out.below hb)
      have AC := Lib.hid (Below.next AC.out hb)
      have HW2 := Lib.hid (show w.heap.size < w2.heap.size from lt_of_cellq HSX.out.1)
      have hgw : w.heap.size ≠ g := by
        have h1 := ho.ge
        have h2 : w.heap.size < (w.alloc (.cells #[.int .i64 f, .int .i64 t, .string x] 26)).heap.size := by simp
        have h3 : ∀ (w : World) (m : Nat), (w.drewN m).heap.size = w.heap.size := fun w m => rfl
        rw [h3] at h1
        omega
      have hgb : w.heap.size ≤ g := by
        have h1 := ho.ge
        have h2 : w.heap.size < (w.alloc (.cells #[.int .i64 f, .int .i64 t, .string x] 26)).heap.size := by simp
        have h3 : ∀ (w : World) (m : Nat), (w.drewN m).heap.size = w.heap.size := fun w m => rfl
        rw [h3] at h1
        omega
      have HO := Lib.hid (OwnC.base ho hgb)
      clear ho hb k0 k1 k2 HC
      go_wp2_with (fail)
      go_loopw [7] (fun i wr => ∃ j : Nat, (j : Int) ≤ y ∧ i = .int .i64 j ∧ OwnC wr w.heap.size g 360 360 (paintK L f x j) ∧ SecAt wr w.heap.size 0 (f, t, x) ∧ Below w.heap.size w wr) (fun i _ => y.toNat - (intOf i).toNat)
      case atStart => exact ⟨0, by omega, rfl, by have e := paintK_zero hLl f x; exact e.symm ▸ HO.out, HSX.out, AC.out⟩
      case round =>
        obtain ⟨j, hj, rfl, ho, hsx, hbel⟩ := hrel
        have HAJ := Lib.hid (HA.out _ _ hsx)
        have HO2 := Lib.hid ho
        have HB2 := Lib.hid hbel
        have HSX2 := Lib.hid hsx
        by_cases hjy : (j : Int) < y
        · obtain ⟨q, hq⟩ : ∃ q : Nat, (q : Int) = (f + j) % 360 := ⟨((f + j) % 360).toNat, by omega⟩
          have hidx : (f + (j : Int)).tmod 360 = (q : Int) := by rw [Int.tmod_eq_emod_of_nonneg (by omega), hq]
          have hq1 : q < 360 := by omega
          have hq2 : (q : Int) < 360 := by omega
          have HST := Lib.hid (paintK_step L (f := f) x (k := (j : Int)) (by omega) (by omega) q hq)
          clear ho hbel hq hsx
          go_wp2_with (go_at_call 46; refine HAJ.out.mono ?_; rintro e w5 ⟨rfl, m5, rfl⟩; refine Hid.out ?_)
          refine Lib.hid ?_
          have HO5 := Lib.hid (HO2.out.below (below_drewN (Below.refl _ _) m5))
          have HB5 := Lib.hid (below_drewN HB2.out m5)
          have HSX5 := Lib.hid (HSX2.out.drewN m5)
          obtain ⟨w6, hw6⟩ : ∃ w6, w6 = wr.drewN m5 := ⟨_, rfl⟩
          rw [← hw6] at HO5 HB5 HSX5 ⊢
          obtain ⟨k0, k1, k2⟩ := HSX5.out
          have o0 := HO5.out.cell q hq1
          have fz := HO5.out.frozen q
          generalize (paintK L f x j).getD q e0 = z at o0
          have HST2 := Lib.hid (show OwnC (w6.setCell ⟨g, q, none⟩ (.string x)) w.heap.size g 360 360 (paintK L f x ((j + 1 : Nat) : Int)) by
            have h := HO5.out.put q x
            rw [HST.out] at h
            exact h)
          have HSX6 := Lib.hid (show SecAt (w6.setCell ⟨g, q, none⟩ (.string x)) w.heap.size 0 (f, t, x) from ⟨cell_puts hgw k0, cell_puts hgw k1, cell_puts hgw k2⟩)
          have HB6 := Lib.hid (HB5.out.setCell (p := ⟨g, q, none⟩) HO5.out.ge (.string x))
          clear hw6 HSX2 HAJ
          go_wp2_with (fail)
          go_roundw
          case rel => exact ⟨j + 1, by omega, by go_num, HST2.out, HSX6.out, HB6.out⟩
          case measure => simp [intOf]; omega
        · obtain rfl : (j : Int) = y := by omega
          clear ho hbel hsx
          go_wp2_with (go_at_call 46; refine HAJ.out.mono ?_; rintro e w5 ⟨rfl, m5, rfl⟩; refine Hid.out ?_)
          refine Lib.hid ?_
          have HO5 := Lib.hid (HO2.out.below (below_drewN (Below.refl _ _) m5))
          have HB5 := Lib.hid (below_drewN HB2.out m5)
          have HSM := Lib.hid (fun w6 (h : OwnC w6 w.heap.size g 360 360 (paintK L f x j)) => ssimple_false g w.heap.size (paintK L f x j) w6 h)
          rw [← HPS.out] at HSM
          by_cases h12 : R.length ≤ 12
          · rw [if_pos h12] at H1 H2
            have h12i : ¬ (12 : Int) < (R.length : Int) := by omega
            go_wp2_with (go_at_call 52; refine (HSM.out _ HO5.out).mono ?_; rintro e w7 ⟨v7, rfl, ho, hb⟩; refine Hid.out ?_)
            refine Lib.hid ?_
            have HO7 := Lib.hid (ho.mono HB5.out.size)
            have HB7 := Lib.hid (Below.next HB5.out hb)
            rcases ho.form with ⟨rfl, hR⟩ | ⟨g7, cap7, rfl, _⟩
            · clear ho hb
              go_wp2_with (fail)
              go_ret2
              exact ⟨_, by rw [H2.out]; rfl, by rw [H1.out]; exact HO7.out, HB7.out⟩
            · clear ho hb
              go_wp2_with (fail)
              go_ret2
              exact ⟨_, by rw [H2.out]; rfl, by rw [H1.out]; exact HO7.out, HB7.out⟩
          · rw [if_neg h12] at H1 H2
            have h12i : (12 : Int) < (R.length : Int) := by omega
            go_wp2_with (go_at_call 52; refine (HSM.out _ HO5.out).mono ?_; rintro e w7 ⟨v7, rfl, ho, hb⟩; refine Hid.out ?_)
            refine Lib.hid ?_
            have HB7 := Lib.hid (Below.next HB5.out hb)
            rcases ho.form with ⟨_, hR⟩ | ⟨g7, cap7, rfl, _⟩
            · exact absurd (show R.length ≤ 12 by rw [hR]; simp) h12
            · clear ho hb
              go_wp2_with (fail)
              go_ret2
              exact ownsc_no H1.out H2.out HB7.out
end Go.Proofs.Ytclbpjjnhfllkaa
