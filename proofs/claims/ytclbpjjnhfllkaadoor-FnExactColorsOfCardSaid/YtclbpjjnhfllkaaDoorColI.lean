/- The colors that occur: the program's. -/
import Derived.Test.YtclbpjjnhfllkaaDoorColM
import Derived.Test.YtclbpjjnhfllkaaDoorSecI
import Derived.Test.YtclbpjjnhfllkaaDoorLayC
import Derived.Shelf.Strings.Explode
import Derived.Deep.LoopGhost
import Derived.WalkMore
namespace Go.Proofs.YtclbpjjnhfllkaaDoor
open Go.ChangeShapes Go.WideShapes Go.ChangeAt Go.RowKit Pm

theorem charsB4 : (Lib.charsB ⟨#[87, 82, 71, 89]⟩).map Value.string = [.string ⟨#[87]⟩, .string ⟨#[82]⟩, .string ⟨#[71]⟩, .string ⟨#[89]⟩] := by
  have h : Lib.charsB ⟨#[87, 82, 71, 89]⟩ = [⟨#[87]⟩, ⟨#[82]⟩, ⟨#[71]⟩, ⟨#[89]⟩] := by rfl
  rw [h]; rfl
theorem split4_any (w : World) :
    Calls Tryd.prog 17 #[.string ⟨#[87, 82, 71, 89]⟩, .string ⟨#[]⟩] w fun e w' => ∃ g, e = .returned (.slice (some ⟨g, 0, none⟩) 4 4) ∧ OwnC w' w.heap.size g 4 4 col4 ∧ Below w.heap.size w w' := by
  have h := Any.strings_Split_chars { Tryd.laysM146 with } Tryd.laysM146.i9 ⟨#[87, 82, 71, 89]⟩ ⟨#[]⟩ w rfl (by decide) (by
    intro j b hj
    have : j < 4 := by
      rcases Nat.lt_or_ge j 4 with h' | h'
      · exact h'
      · rw [List.getElem?_eq_none (by simpa using h')] at hj; cases hj
    match j, this with
    | 0, _ => simp at hj; subst hj; decide
    | 1, _ => simp at hj; subst hj; decide
    | 2, _ => simp at hj; subst hj; decide
    | 3, _ => simp at hj; subst hj; decide)
  refine h.mono fun e w' ⟨he, hw⟩ => ?_
  have hsz : (w.iter ⟨#[87, 82, 71, 89]⟩ 4).heap.size = w.heap.size + 1 := by
    show (w.heap.push (Obj.stringIter ⟨#[87, 82, 71, 89]⟩ 4)).size = _
    simp
  have hw2 : w' = (w.iter ⟨#[87, 82, 71, 89]⟩ 4).alloc (.cells #[.string ⟨#[87]⟩, .string ⟨#[82]⟩, .string ⟨#[71]⟩, .string ⟨#[89]⟩] 9) := by
    rw [hw, charsB4]; rfl
  refine ⟨_, he, ?_, by rw [hw2]; exact ((Below.refl _ _).alloc (Nat.le_refl _) _).alloc (Nat.le_of_lt (Nat.lt_of_lt_of_eq (Nat.lt_succ_self _) hsz.symm)) _⟩
  rw [hw2]
  have h4 := row4 (w.iter ⟨#[87, 82, 71, 89]⟩ 4)
  refine ⟨h4.1, ?_⟩
  rcases h4.2 with h2 | ⟨g, cap, cur, h1, h3, h5⟩
  · exact .inl h2
  · exact .inr ⟨g, cap, cur, h1, by omega, h5⟩
set_option maxHeartbeats 1000000 in
theorem colors_row (a : Option Addr) (c : Nat) (ps : List Sec) (w : World) (hl : ps.length ≤ 12) (HOK : Hid (Calls Tryd.prog 16 #[.slice a ps.length c] w fun e w' => e = .returned (.bool true) ∧ Below w.heap.size w w')) (hc : ArgSec w a ps.length ps) :
    Calls Tryd.prog 8 #[.slice a ps.length c] w fun e w' => e = .returned (.tuple #[.string (colsA ps), .int .i64 0]) ∧ Below w.heap.size w w' := by
  have HC := Lib.hid hc
  have HSP := Lib.hid (fun w => split4_any w)
  clear hc
  go_enter Tryd.func8, Tryd.ntmps8
  go_wp2_with (fail)
  go_step3
  go_wp2_with (go_at_call 16; refine HOK.out.mono ?_; rintro e w0 ⟨rfl, hb⟩; refine Hid.out ?_)
  refine Lib.hid ?_
  have HB0 := Lib.hid hb
  clear HOK hb
  go_wp2_with (fail)
  go_step3
  go_wp2_with (go_at_call 17; refine (HSP.out _).mono ?_; rintro e w1 ⟨g, rfl, ho, hb⟩; refine Hid.out ?_)
  refine Lib.hid ?_
  have HO := Lib.hid ho
  have HB1 := Lib.hid (Below.next HB0.out hb)
  clear ho hb HSP
  go_wp2_with (fail)
  go_loopg [4, 14] 4 (fun gk o i wr => ∃ (k : Nat), k ≤ 4 ∧ gk = 4 - k ∧ i = .int .i64 k ∧ o = .string (colK ps k) ∧ OwnC wr w0.heap.size g 4 4 col4 ∧ Below w.heap.size w wr)
  case atStart => exact ⟨0, Nat.zero_le _, rfl, rfl, rfl, HO.out, HB1.out⟩
  case round =>
    obtain ⟨k, hk, hgk, rfl, rfl, ho, hbel⟩ := hrel
    have HG1 := Lib.hid hgk
    obtain ⟨g1, hg1⟩ : ∃ g1, g1 = gk := ⟨_, rfl⟩
    have HG2 := Lib.hid (show g1 = 4 - k by rw [hg1]; exact hgk)
    clear hgk hg1
    have HO := Lib.hid ho
    have HB := Lib.hid hbel
    by_cases hlt : k < 4
    · have hkn : (k : Int) < 4 := by omega
      have HST := Lib.hid (colK_step ps k hlt)
      have hsz := colK_size ps k hk
      have hsz1 := col4_size k hlt
      have x0 := ho.cell k hlt
      generalize colK ps k = o at *
      generalize col4.getD k e0 = cc at *
      clear ho hbel
      go_wp2_with (fail)
      go_loopg [4, 20] ps.length (fun g2 q i wr => ∃ j : Nat, j ≤ ps.length ∧ g2 = ps.length - j ∧ i = .int .i64 j ∧ q = .string o ∧ (∀ i, i < j → sB (ps.getD i sec0).2.2 cc = false) ∧ OwnC wr w0.heap.size g 4 4 col4 ∧ Below w.heap.size w wr)
      case atStart => exact ⟨0, Nat.zero_le _, rfl, rfl, rfl, fun i hi => by omega, HO.out, HB.out⟩
      case round =>
        obtain ⟨j, hj, hg2, rfl, rfl, hno, ho, hbel⟩ := hrel
        have HG3 := Lib.hid hg2
        clear hg2
        have HNO := Lib.hid hno
        have HO2 := Lib.hid ho
        clear hno
        by_cases hjn : j < ps.length
        · have hjk : (j : Int) < (ps.length : Int) := by omega
          obtain ⟨b, off, ha, hc⟩ := HC.out.2.resolve_left (by intro e; rw [e] at hjn; simp at hjn)
          subst ha
          obtain ⟨c0, c1, c2⟩ := SecAt.below (p := ps.getD j sec0) (hc j hjn) hbel
          clear hc
          have HV2 := Lib.hid (show ∀ s, s = (ps.getD j sec0).2.2 → sB s cc = false → ∀ i, i < j + 1 → sB (ps.getD i sec0).2.2 cc = false from fun s hs hb i hi => by
            by_cases e : i < j
            · exact HNO.out i e
            · obtain rfl : i = j := by omega
              rw [← hs]; exact hb)
          have HV3 := Lib.hid (show ∀ s, s = (ps.getD j sec0).2.2 → sB s cc = true → colK ps (k + 1) = o ++ cc from fun s hs hb => by
            rw [HST.out, hasC_yes hjn (by rw [← hs]; exact hb)]; rfl)
          have HV2 := Lib.hid (HV2.out _ rfl)
          have HV3 := Lib.hid (HV3.out _ rfl)
          generalize (ps.getD j sec0).1 = f at *
          generalize (ps.getD j sec0).2.1 = t at *
          generalize (ps.getD j sec0).2.2 = s at *
          have hbx : Below wr.heap.size wr (wr.alloc (.cells #[.int .i64 f, .int .i64 t, .string s] 35)) := (Below.refl _ _).alloc (Nat.le_refl _) _
          have HO3 := Lib.hid (ho.below hbx)
          have HB3 := Lib.hid (Below.next hbel hbx)
          clear ho hbel hbx
          cases hb : sB s cc
          · have hb2 : (s.toList == cc.toList) = false := hb
            have HN2 := Lib.hid (HV2.out hb)
            clear hb
            go_wp2_with (fail)
            go_roundg (ps.length - (j + 1))
            case measure => have := HG3.out; omega
            case rel => exact ⟨j + 1, by omega, rfl, by go_num, rfl, HN2.out, HO3.out, HB3.out⟩
          · have HV := Lib.hid (HV3.out hb)
            have hb2 : (s.toList == cc.toList) = true := hb
            have q1 := fun w => run_string_add_sum (P := Tryd.prog) (w := w) o cc (by omega)
            clear hb
            go_wp2_with (fail)
            go_roundg (4 - (k + 1))
            case measure => have := HG1.out; omega
            case rel => exact ⟨k + 1, by omega, rfl, by go_num, by rw [HV.out], HO3.out, HB3.out⟩
        · obtain rfl : j = ps.length := by omega
          have HV := Lib.hid (show colK ps (k + 1) = o by rw [HST.out, hasC_no HNO.out]; rfl)
          have HB2 := Lib.hid hbel
          clear ho hbel
          go_wp2_with (fail)
          go_roundg (4 - (k + 1))
          case measure => have := HG1.out; omega
          case rel => exact ⟨k + 1, by omega, rfl, by go_num, by rw [HV.out], HO2.out, HB2.out⟩
    · obtain rfl : k = 4 := by omega
      clear ho hbel
      go_wp2
      try rw [Exit.noGoto_ret]
      go_returns
      exact ⟨rfl, HB.out⟩
theorem retSI {s u : ByteArray} {a b : Int} (h : s = u) (k : a = b) : Ending.returned (.tuple #[.string s, .int .i64 a]) = .returned (.tuple #[.string u, .int .i64 b]) := by rw [h, k]
theorem colorsof_any (v : Value) (ps : List Sec) (w : World) (h : SecAre w v ps) :
    Calls Tryd.prog 8 #[v] w fun e w' => e = .returned (.tuple #[.string (colsV ps), .int .i64 (colsC ps)]) ∧ Below w.heap.size w w' := by
  have HS := okay_any v ps w h
  cases hv : validS ps
  · rw [hv] at HS
    have HK := Lib.hid HS
    have H1 := Lib.hid (show colsV ps = ⟨#[]⟩ by unfold colsV; rw [hv]; rfl)
    have H2 := Lib.hid (show colsC ps = 1 by unfold colsC; rw [hv]; rfl)
    obtain ⟨a, c, rfl, h⟩ := h
    clear h HS
    go_enter Tryd.func8, Tryd.ntmps8
    go_wp2_with (fail)
    go_step3
    go_wp2_with (go_at_call 16; refine HK.out.mono ?_; rintro e w1 ⟨rfl, hb⟩)
    try rw [Exit.noGoto_ret]
    go_returns
    exact ⟨retSI H1.out.symm H2.out.symm, hb⟩
  · have H1 := show colsV ps = colsA ps by unfold colsV; rw [hv]; rfl
    have H2 := show colsC ps = 0 by unfold colsC; rw [hv]; rfl
    rw [hv] at HS
    rw [H1, H2]
    obtain ⟨a, c, rfl, h⟩ := h
    exact colors_row a c ps w (validS_iff.1 hv).1 (Lib.hid HS) h
theorem scolorsof_any (v : Value) (ps : List Sec) (w : World) (hm : ps.length ≤ 1048576) (h : SecAre w v ps) :
    Calls Tryd.prog 6 #[v] w fun e w' => e = .returned (.tuple #[.string (colsV ps), .int .i64 (colsC ps)]) ∧ Below w.heap.size w w' := by
  have HV := Lib.hid (sokay_any v ps w hm h)
  cases hb : validS ps
  · have H1 := Lib.hid (show colsV ps = ⟨#[]⟩ by unfold colsV; rw [hb]; rfl)
    have H2 := Lib.hid (show colsC ps = 1 by unfold colsC; rw [hb]; rfl)
    rw [hb] at HV
    clear hb h
    go_enter Tryd.func6, Tryd.ntmps6
    go_wp2_with (go_at_call 13; refine HV.out.mono ?_; rintro e w1 ⟨rfl, m, rfl⟩)
    go_returns
    exact ⟨retSI H1.out.symm H2.out.symm, below_drewN (Below.refl _ _) m⟩
  · obtain ⟨a, c, rfl, h⟩ := h
    have HS := Lib.hid (fun w' (hb2 : Below w.heap.size w w') => scolors_row a c ps w' (validS_iff.1 hb).1 (h.below hb2))
    have H1 := Lib.hid (show colsV ps = colsA ps by unfold colsV; rw [hb]; rfl)
    have H2 := Lib.hid (show colsC ps = 0 by unfold colsC; rw [hb]; rfl)
    obtain ⟨t, ht⟩ : ∃ t, t = colsA ps := ⟨_, rfl⟩
    rw [hb] at HV
    rw [← ht] at HS H1
    clear hb h ht
    go_enter Tryd.func6, Tryd.ntmps6
    go_wp2_with (go_at_call 13; refine HV.out.mono ?_; rintro e w1 ⟨rfl, m, rfl⟩; refine Hid.out ?_)
    refine Lib.hid ?_
    have HB := Lib.hid (below_drewN (Below.refl w.heap.size w) m)
    go_wp2_with (go_at_call 14; refine (HS.out _ HB.out).mono ?_; rintro e w1 ⟨rfl, hb⟩; have AC := Lib.hid (Below.next HB.out hb); clear hb)
    go_returns
    exact ⟨retSI H1.out.symm H2.out.symm, AC.out⟩
end Go.Proofs.YtclbpjjnhfllkaaDoor
