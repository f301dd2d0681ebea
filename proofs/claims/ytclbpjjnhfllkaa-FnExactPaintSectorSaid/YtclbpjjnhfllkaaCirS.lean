/- The model's circle of a list. -/
import Derived.Test.YtclbpjjnhfllkaaCir
import Derived.Test.YtclbpjjnhfllkaaSecS
import Derived.BigRegion
namespace Go.Proofs.Ytclbpjjnhfllkaa
open Go.ChangeShapes Go.WideShapes Go.ChangeAt Go.RowKit Pm

set_option maxRecDepth 100000 in
theorem scircle_row (b off c : Nat) (ps : List Sec) (w : World) (hv : ValidS ps) (hc : ∀ i, i < ps.length → SecAt w b (off + i * 3) (ps.getD i sec0)) :
    Calls Try.prog 49 #[.slice (some ⟨b, off, none⟩) ps.length c] w fun e w' => ∃ g, e = .returned (.slice (some ⟨g, 0, none⟩) 360 360) ∧ OwnC w' w.heap.size g 360 360 (circL ps) ∧ Below w.heap.size w w' := by
  obtain ⟨i0, hi, hz0, hz1, hz2⟩ := strinfo_parts infoStrC
  have HC := Lib.hid hc
  have HV := Lib.hid hv
  have hl := hv.1
  clear hc hv
  go_enter Try.func49, Try.ntmps49
  go_wp2_with (at_make; refine wpList_make_full _ rfl _ _ 55 rfl w.heap.size 9 i0 (.string ⟨#[]⟩) 1 Try.underlying55 hi hz0 hz1 _ _ _ _ 360 rfl rfl rfl rfl (by rw [hz2]; omega) (by unfold maxLen; omega) (Nat.le_refl _) ?_)
  intro w1 hown hg
  have hb : Below w.heap.size w w1 := (Below.refl _ _).grown hg (Nat.le_refl _) (fun k hk => by cases hk)
  have HO := Lib.hid (show OwnC w1 w.heap.size w.heap.size 360 360 (circL []) by
    have e : (madeCells #[Value.string ⟨#[]⟩] 360).toList = cirV (circL []) := made_str 360
    rw [e] at hown; exact hown)
  have HB := Lib.hid hb
  obtain ⟨N, hN⟩ : ∃ N : Nat, N = 360 := ⟨_, rfl⟩
  rw [← hN] at HO ⊢
  have HN := Lib.hid hN
  clear hown hg hb hi hz0 hz1 hz2 hN
  go_wp2_with (fail)
  go_loopw [4] (fun i wr => ∃ k : Nat, k ≤ ps.length ∧ i = .int .i64 k ∧ OwnC wr w.heap.size w.heap.size N N (circL (ps.take k)) ∧ Below w.heap.size w wr) (fun i _ => ps.length - (intOf i).toNat)
  case atStart => exact ⟨0, Nat.zero_le _, rfl, HO.out, HB.out⟩
  case round =>
    obtain ⟨k, hk, rfl, ho, hbel⟩ := hrel
    have HO := Lib.hid ho
    have HB := Lib.hid hbel
    clear ho hbel
    by_cases hlt : k < ps.length
    · have hkn : (k : Int) < (ps.length : Int) := by omega
      have hok := (HV.out.2.1 k hlt).1
      have HT := Lib.hid (circL_take ps k hlt)
      have HA := Lib.hid (fun wr (hb : Below w.heap.size w wr) => (sarc_any b (off + k * 3) (ps.getD k sec0) wr ((HC.out k hlt).below hb) (okSec_endsB hok)))
      rw [← okSec_arc hok] at HA
      have HCK := Lib.hid (fun wr (hb : Below w.heap.size w wr) => (HC.out k hlt).below hb)
      obtain ⟨b0, b1⟩ := arcS_bd (ps.getD k sec0)
      obtain ⟨⟨f0, f1⟩, _, _⟩ := okSec_ends hok
      obtain ⟨L, hL⟩ : ∃ L, L = circL (ps.take k) := ⟨_, rfl⟩
      have hLl : L.length = 360 := by rw [hL]; exact circL_len _
      rw [← hL] at HO HT
      generalize arcS (ps.getD k sec0) = y at *
      generalize ps.getD k sec0 = p at *
      obtain ⟨f, t, s⟩ := p
      simp only at f0 f1 HT
      clear hL hok
      go_wp2_with (fail)
      go_loopw [5] (fun i wr => ∃ j : Nat, (j : Int) ≤ y ∧ i = .int .i64 j ∧ OwnC wr w.heap.size w.heap.size N N (paintK L f s j) ∧ Below w.heap.size w wr) (fun i _ => y.toNat - (intOf i).toNat)
      case atStart => exact ⟨0, by omega, rfl, by have e := paintK_zero hLl f s; exact e.symm ▸ HO.out, HB.out⟩
      case round =>
        obtain ⟨j, hj, rfl, ho, hbel⟩ := hrel
        have HB2 := Lib.hid hbel
        have HAJ := Lib.hid (HA.out _ hbel)
        by_cases hjy : (j : Int) < y
        · obtain ⟨q, hq⟩ : ∃ q : Nat, (q : Int) = (f + j) % 360 := ⟨((f + j) % 360).toNat, by omega⟩
          have hidx : (f + (j : Int)).tmod 360 = (q : Int) := by rw [Int.tmod_eq_emod_of_nonneg (by omega), hq]
          have hq1 : q < 360 := by omega
          have hq2 : (q : Int) < (N : Int) := by have := HN.out; omega
          have HST := Lib.hid (paintK_step L (f := f) s (k := (j : Int)) (by omega) (by omega) q hq)
          have HO2 := Lib.hid ho
          clear ho hbel hq
          go_wp2_with (go_at_call 46; refine HAJ.out.mono ?_; rintro e w2 ⟨rfl, m, rfl⟩; refine Hid.out ?_)
          refine Lib.hid ?_
          have hbel := below_drewN HB2.out m
          obtain ⟨c0, _, c2⟩ := HCK.out _ hbel
          have ho := HO2.out.below (below_drewN (Below.refl _ _) m)
          have o0 := ho.cell q (by omega)
          have fz := ho.frozen q
          simp only at c0 c2
          generalize (paintK L f s j).getD q e0 = z at o0
          obtain ⟨w3, hw3⟩ : ∃ w3, w3 = wr.drewN m := ⟨_, rfl⟩
          rw [← hw3] at hbel c0 c2 ho o0 fz ⊢
          have HO3 := Lib.hid ho
          have HB3 := Lib.hid hbel
          clear hw3 ho hbel HO2 HB2 HAJ hq1
          go_wp2_with (fail)
          go_region
          have HST2 := Lib.hid (show OwnC (w3.drew.setCell ⟨w.heap.size, q, none⟩ (.string s)) w.heap.size w.heap.size N N (paintK L f s ((j + 1 : Nat) : Int)) by
            have h := (HO3.out.below (Below.refl _ _).drew).put q s
            rw [HST.out] at h
            exact h)
          have HB4 := Lib.hid (HB3.out.drew.setCell (p := ⟨w.heap.size, q, none⟩) (Nat.le_refl _) (.string s))
          go_wp2_with (fail)
          go_roundw
          case rel => exact ⟨j + 1, by omega, by go_num, HST2.out, HB4.out⟩
          case measure => simp [intOf]; omega
        · obtain rfl : (j : Int) = y := by omega
          have HO4 := Lib.hid ho
          clear ho hbel
          go_wp2_with (go_at_call 46; refine HAJ.out.mono ?_; rintro e w2 ⟨rfl, m, rfl⟩; refine Hid.out ?_)
          refine Lib.hid ?_
          have HB5 := Lib.hid (below_drewN HB2.out m)
          have HO5 := Lib.hid (HO4.out.below (below_drewN (Below.refl _ _) m))
          go_wp2_with (fail)
          go_roundw
          case rel => exact ⟨k + 1, by omega, by go_num, by rw [HT.out]; exact HO5.out, HB5.out⟩
          case measure => simp [intOf]; omega
    · obtain rfl : k = ps.length := by omega
      have HE := Lib.hid (show OwnC wr w.heap.size w.heap.size 360 360 (circL ps) by have := HO.out; rw [List.take_of_length_le (Nat.le_refl _), HN.out] at this; exact this)
      have HV2 := Lib.hid (show Value.slice (some ⟨w.heap.size, 0, none⟩) N N = .slice (some ⟨w.heap.size, 0, none⟩) 360 360 by rw [HN.out])
      go_wp2
      go_ret
      exact ⟨_, by rw [HV2.out]; rfl, HE.out, HB.out⟩
end Go.Proofs.Ytclbpjjnhfllkaa
