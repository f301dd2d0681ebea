/- Reading a fog signal: the program's. -/
import Derived.Test.YthheacebafleeacGreatDoorRdhX
import Derived.Test.YthheacebafleeacGreatDoorReadX
import Derived.Test.YthheacebafleeacGreatDoorFogY
import Derived.Test.YthheacebafleeacGreatDoorFgtI
import Derived.Deep.RegionHeld3
namespace Go.Proofs.YthheacebafleeacGreatDoor
open Go.ChangeShapes Go.WideShapes Go.ChangeAt Go.RowKit Pm

theorem cut_any (s : ByteArray) (c : UInt8) (w : World) (hs : s.size ≤ 1048576) (hl : LenAt w) :
    Calls Tryz.prog 24 #[.string s, .string ⟨#[c]⟩] w fun e w' => e = .returned (.tuple #[.string (cutA s c), .string (cutB s c), .bool (cutC s c)]) ∧ Below w.heap.size w w' := by
  obtain ⟨m, hm⟩ := hl
  refine (Any.strings_Cut Tryz.lays145 s ⟨#[c]⟩ m w (by omega) hm).mono fun e w' ⟨he, n, hw⟩ => ⟨he, ?_⟩
  subst hw
  exact fall_drew w n
theorem cutB_size (s : ByteArray) (c : UInt8) : (cutB s c).size ≤ s.size := by
  show (Lib.cut s.data.toList [c]).2.1.toArray.size ≤ _
  unfold Lib.cut
  have : s.size = s.data.toList.length := rfl
  split <;> simp <;> omega
/-- What the program's reading wants of a world. -/
def RdBase (ea ep eq : Addr) (w : World) : Prop := FogsAt w ∧ FogErrs ea ep eq w ∧ PowAt w ∧ LenAt w ∧ LenAt7 w ∧ ErrsAt w
theorem RdBase.below {ea ep eq : Addr} {w w' : World} (h : RdBase ea ep eq w) (hb : Below w.heap.size w w') : RdBase ea ep eq w' :=
  ⟨h.1.below hb, h.2.1.below hb, PowAt.below h.2.2.1 hb, h.2.2.2.1.below hb, h.2.2.2.2.1.below hb, h.2.2.2.2.2.below hb⟩
set_option maxRecDepth 100000 in
theorem readfog_len (s : ByteArray) (w : World) (hs : s.size ≤ 1048576) (hn : (cutS 32 s).length ≠ 3) (hL : LenAt w) :
    Calls Tryz.prog 9 #[.string s] w (RdRet (rdF s) w) := by
  have HV := Lib.hid (rdF_len hn)
  have HSP := Lib.hid (fun w' (hb : Below w.heap.size w w') => split_any s 32 w' hs (hL.below hb))
  have hpos : 0 < (cutS 32 s).length := by rw [cutS_len]; omega
  obtain ⟨ps, hps⟩ : ∃ ps, ps = cutS 32 s := ⟨_, rfl⟩
  rw [← hps] at HSP hpos hn
  have hne : ((ps.length : Int) != 3) = true := by rw [bne_iff_ne]; omega
  clear hps hL hs
  unfold RdRet
  go_enter Tryz.func9, Tryz.ntmps9
  go_wp2_with (go_at_call 23; (refine (HSP.out _ (by go_grown)).mono ?_); rintro e w1 ⟨v, rfl, ho, hb⟩; refine Hid.out ?_)
  refine Lib.hid ?_
  have zc := (zero4 w 25).1.below hb
  have zf := (zero4 w 25).2.below hb
  have AC := Lib.hid (Below.next (a := w) (by go_grown) hb)
  clear hb
  rw [strV_len] at ho
  obtain ⟨g, cap, rfl, _, _⟩ := ho.form hpos
  obtain ⟨d0, d1, d2, d3⟩ := zc
  obtain ⟨hlt, f0, f1, f2, f3⟩ := zf
  clear ho HSP
  go_wp2_with (fail)
  refine bodyPost_ret (v := .tuple #[.agg #[.int .i64 0, .int .i64 0, .int .i64 0, .int .i64 0], .bool false]) (by simp [results, Tryz.results9, go_sem, *]) rfl ⟨by rw [HV.out], ?_⟩
  iterate 4 (refine Below.setCell ?_ (by exact Nat.le_refl _) _)
  exact AC.out
set_option maxRecDepth 100000 in
set_option maxHeartbeats 40000000 in
theorem readfog_three (s a b c : ByteArray) (ea ep eq : Addr) (w : World) (hs : s.size ≤ 1048576) (hw : cutS 32 s = [a, b, c]) (hB : RdBase ea ep eq w) :
    Calls Tryz.prog 9 #[.string s] w (RdRet (rd3 s a b c) w) := by
  have za := cut_sizes hw
  have zt := trim_size a 41
  have zu := cutB_size (trimT a 41) 40
  have HSP := Lib.hid (fun w' (hb : Below w.heap.size w w') => split_any s 32 w' (by omega) (hB.below hb).2.2.2.1)
  rw [hw] at HSP
  have HTR := Lib.hid (fun w' => trim_any a 41 w' (by omega))
  have HBS := Lib.hid hB
  have HCU := Lib.hid (fun w' (h : RdBase ea ep eq w') => cut_any (trimT a 41) 40 w' (by omega) h.2.2.2.1)
  have HK := fun w' (h : RdBase ea ep eq w') => kindof_any (cutA (trimT a 41) 40) w' h.1
  have HS := fun w' (h : RdBase ea ep eq w') => secs_any b w' (by omega) h.2.2.2.2.1 h.2.2.2.2.2
  have HD1 := fun w' (h : RdBase ea ep eq w') => readdec_any (cutB (trimT a 41) 40) w' (by omega) h.2.2.1 h.2.2.2.2.2
  have HD2 := fun w' (h : RdBase ea ep eq w') => readdec_any c w' (by omega) h.2.2.1 h.2.2.2.2.2
  have HVF := fun k l p q w' (h : RdBase ea ep eq w') => validfog_any k l p q ea ep eq w' h.1 h.2.1
  have HFT := fun k l p q w' (h : RdBase ea ep eq w') => fogtext_any k l p q ea ep eq w' h.1 h.2.1 h.2.2.1
  -- the candidate
  have HR := rd3_no (s := s) (a := a) (b := b) (c := c)
  have HY := rd3_yes (s := s) (a := a) (b := b) (c := c)
  have HU : okF (cand3 a b c) = true → txF (cand3 a b c) = s → rd3 s a b c = (cand3 a b c, true) := fun h1 h2 => by unfold rd3; rw [if_pos ⟨h1, h2⟩]
  have HN0 : okF (cand3 a b c) = false → rd3 s a b c = ((0, 0, 0, 0), false) := fun h1 => by unfold rd3; rw [if_neg (fun h => by rw [h1] at h; exact absurd h.1 (by decide))]
  have HN1 : txF (cand3 a b c) ≠ s → rd3 s a b c = ((0, 0, 0, 0), false) := fun h1 => by unfold rd3; rw [if_neg (fun h => h1 h.2)]
  generalize rd3 s a b c = r at *
  have eK : kindOf (cutA (trimT a 41) 40) = candK a := rfl
  rw [eK] at HK
  have eL : candB a = if cutC (trimT a 41) 40 then numR (cutB (trimT a 41) 40).data.toList else 1 := rfl
  have eC : cand3 a b c = (candK a, candB a, rsV b, numR c.data.toList) := rfl
  rw [eC] at HU HN0 HN1
  generalize candK a = K at *
  generalize rsV b = P at *
  generalize numR c.data.toList = Q at *
  generalize canB c.data.toList = cq at *
  obtain ⟨t, ht⟩ : ∃ t, t = trimT a 41 := ⟨_, rfl⟩
  rw [← ht] at HTR HCU HD1 eL HK
  generalize cutA t 40 = ta at *
  generalize cutC t 40 = tc at *
  generalize numR (cutB t 40).data.toList = l0 at *
  generalize canB (cutB t 40).data.toList = cb at *
  generalize cutB t 40 = tb at *
  generalize candB a = L at *
  clear ht HR HY hw eK eC
  replace HU := Lib.hid HU
  replace HN0 := Lib.hid HN0
  replace HN1 := Lib.hid HN1
  replace HD1 := Lib.hid HD1
  replace HD2 := Lib.hid HD2
  replace HVF := Lib.hid HVF
  replace HFT := Lib.hid HFT
  replace HK := Lib.hid HK
  replace HS := Lib.hid HS
  have EL := Lib.hid eL
  clear za zt zu eL hB hs
  unfold RdRet
  go_enter Tryz.func9, Tryz.ntmps9
  go_wp2_with (go_at_call 23; (refine (HSP.out _ (by go_grown)).mono ?_); rintro e w1 ⟨v, rfl, ho, hb⟩; refine Hid.out ?_)
  refine Lib.hid ?_
  have zc := (zero4 w 25).1.below hb
  have zf := (zero4 w 25).2.below hb
  have AC := Lib.hid (Below.next (a := w) (by go_grown) hb)
  clear hb
  rw [strV_len] at ho
  obtain ⟨g, cap, rfl, _, _⟩ := ho.form (show 0 < [a, b, c].length by simp)
  have k0 : w1.cell? ⟨g, 0, none⟩ = some (.string a) := ho.cellAt 0 (by simp)
  have k1 : w1.cell? ⟨g, 1, none⟩ = some (.string b) := ho.cellAt 1 (by simp)
  have k2 : w1.cell? ⟨g, 2, none⟩ = some (.string c) := ho.cellAt 2 (by simp)
  clear ho
  have hne : ((([a, b, c] : List ByteArray).length : Int) != 3) = false := rfl
  have ZC := Lib.hid zc
  have ZF := Lib.hid zf
  have BS1 := Lib.hid (HBS.out.below AC.out)
  clear zc zf HSP HBS
  go_wp2_with (first
    | (go_at_call 25; refine (HTR.out _).mono ?_; rintro e w2 ⟨rfl, rfl⟩)
    | (go_at_call 24; (refine (HCU.out _ BS1.out).mono ?_); rintro e w2 ⟨rfl, hb⟩; refine Hid.out ?_))
  refine Lib.hid ?_
  replace k1 := cell_below k1 hb
  replace k2 := cell_below k2 hb
  replace ZC := Lib.hid (ZC.out.below hb)
  replace ZF := Lib.hid (ZF.out.below hb)
  replace AC := Lib.hid (Below.next AC.out hb)
  replace BS1 := Lib.hid (BS1.out.below hb)
  clear hb k0 HTR HCU
  replace HK := Lib.hid (fun w' (hb : Below w2.heap.size w2 w') => HK.out w' (BS1.out.below hb))
  replace HS := Lib.hid (fun w' (hb : Below w2.heap.size w2 w') => HS.out w' (BS1.out.below hb))
  go_wp2_with (fail)
  go_cut [8] from 24 to 31 (fun pv wx => ∃ Bf : Nat, pv = .pointer (some ⟨Bf, 0, none⟩) ∧ w2.heap.size ≤ Bf ∧ FogCellsI wx Bf K 1 P 0 ∧ Fz wx Bf ∧ Below w2.heap.size w2 wx)
  case first =>
    clear HU HN0 HN1 HD1 HD2 HVF HFT EL BS1 ZC ZF AC hne k2
    have hgl := rcell_lt k1
    have k1d : w2.drew.cell? ⟨g, 1, none⟩ = some (.string b) := k1
    have k1a : (w2.drew.alloc (.cells #[.int .i64 0, .int .i64 0, .int .i64 0, .int .i64 0] 25)).cell? ⟨g, 1, none⟩ = some (.string b) := cell_below k1d ((Below.refl _ _).alloc (Nat.le_refl _) _)
    have k1e : ((w2.alloc (.cells #[.int .i64 0, .int .i64 0, .int .i64 0, .int .i64 0] 25)).drew).cell? ⟨g, 1, none⟩ = some (.string b) := k1a
    go_region_with (first
      | (go_at_call 26; (refine (HK.out _ (by go_grown)).mono ?_); rintro e wK ⟨rfl, hb⟩; (try (first | (refine keepBlk ⟨⟨d0, d1, d2, d3⟩, hlt, f0, f1, f2, f3⟩ hb ?_; rintro ⟨⟨d0, d1, d2, d3⟩, hlt, f0, f1, f2, f3⟩) | (refine keepNewD hb ?_; rintro ⟨⟨d0, d1, d2, d3⟩, hlt, f0, f1, f2, f3⟩) | (refine keepNew hb ?_; rintro ⟨⟨d0, d1, d2, d3⟩, hlt, f0, f1, f2, f3⟩; try dsimp only [World.drew] at d0 d1 d2 d3 hlt f0 f1 f2 f3))); have BK := Below.next (a := w2) (by go_grown) hb; have hz := BK.size; clear hb; have k1 := cell_below k1 BK; have k1b : (wK.alloc (.cells #[.int .i64 0, .int .i64 0, .int .i64 0, .int .i64 0] 25)).cell? ⟨g, 1, none⟩ = some (.string b) := cell_below k1 ((Below.refl _ _).alloc (Nat.le_refl _) _))
      | (go_at_call 27; (refine (HS.out _ (by go_grown)).mono ?_); rintro e wS ⟨rfl, hb⟩; (try (first | (refine keepBlk ⟨⟨d0, d1, d2, d3⟩, hlt, f0, f1, f2, f3⟩ hb ?_; rintro ⟨⟨d0, d1, d2, d3⟩, hlt, f0, f1, f2, f3⟩) | (refine keepNewD hb ?_; rintro ⟨⟨d0, d1, d2, d3⟩, hlt, f0, f1, f2, f3⟩) | (refine keepNew hb ?_; rintro ⟨⟨d0, d1, d2, d3⟩, hlt, f0, f1, f2, f3⟩; try dsimp only [World.drew] at d0 d1 d2 d3 hlt f0 f1 f2 f3))); have BK := Below.next (a := w2) (by go_grown) hb; have hz := BK.size; clear hb))
    all_goals
      go_wp2_with (fail)
      go_meet
      first
        | ((with_reducible refine fin_new ?_); exact BK)
        | ((with_reducible refine fin_set ?_ ?_ ?_); (· exact ⟨⟨d0, d1, d2, d3⟩, hlt, f0, f1, f2, f3⟩); (· first | exact Nat.le_refl _ | omega); exact BK)
  case rest =>
    obtain ⟨Bf, rfl, hBf, fc, fz, bx⟩ := hcut
    have FC := Lib.hid fc
    have FZ := Lib.hid fz
    have BX := Lib.hid bx
    clear fc fz bx HK HS
    have hlg := rcell_lt k2
    have hg1 : g ≠ Bf := by omega
    have hg2 : Bf ≠ g := by omega
    cases tc
    · have hL1 : L = 1 := EL.out
      subst hL1
      replace k2 := cell_below k2 BX.out
      obtain ⟨d0, d1, d2, d3⟩ := FC.out
      obtain ⟨hlt, f0, f1, f2, f3⟩ := FZ.out
      go_wp2_with (go_at_call 28; (refine (HD2.out _ (BS1.out.below BX.out)).mono ?_); rintro e w4 ⟨rfl, hb⟩; refine Hid.out ?_)
      refine Lib.hid ?_
      replace FC := Lib.hid (show FogCellsI w4 Bf K 1 P 0 from ⟨cell_below (a := ⟨Bf, 0, none⟩) (v := .int .i64 K) (by first | assumption | go_cell) hb, cell_below (a := ⟨Bf, 1, none⟩) (v := .int .i64 1) (by first | assumption | go_cell) hb, cell_below (a := ⟨Bf, 2, none⟩) (v := .int .i64 P) (by first | assumption | go_cell) hb, cell_below (a := ⟨Bf, 3, none⟩) (v := .int .i64 0) (by first | assumption | go_cell) hb⟩)
      replace FZ := Lib.hid (show Fz w4 Bf from ⟨Nat.lt_of_lt_of_le (by first | assumption | (simp; omega)) hb.size, frozen_belowF (a := ⟨Bf, 0, none⟩) (by first | assumption | go_simp) (by first | assumption | (simp; omega)) hb, frozen_belowF (a := ⟨Bf, 1, none⟩) (by first | assumption | go_simp) (by first | assumption | (simp; omega)) hb, frozen_belowF (a := ⟨Bf, 2, none⟩) (by first | assumption | go_simp) (by first | assumption | (simp; omega)) hb, frozen_belowF (a := ⟨Bf, 3, none⟩) (by first | assumption | go_simp) (by first | assumption | (simp; omega)) hb⟩)
      replace BX := Lib.hid (Below.next (show Below w2.heap.size w2 _ from BX.out) hb)
      clear hb d0 d1 d2 d3 hlt f0 f1 f2 f3 k2
      obtain ⟨d0, d1, d2, d3⟩ := FC.out
      obtain ⟨hlt, f0, f1, f2, f3⟩ := FZ.out
      go_wp2_with (go_at_call 22; (refine (HVF.out K 1 P Q _ (BS1.out.below (Below.setCell BX.out hBf _))).mono ?_); rintro e w5 ⟨rfl, hb⟩; refine Hid.out ?_)
      refine Lib.hid ?_
      replace FC := Lib.hid (show FogCellsI w5 Bf K 1 P Q from ⟨cell_below (a := ⟨Bf, 0, none⟩) (v := .int .i64 K) (by first | assumption | go_cell) hb, cell_below (a := ⟨Bf, 1, none⟩) (v := .int .i64 1) (by first | assumption | go_cell) hb, cell_below (a := ⟨Bf, 2, none⟩) (v := .int .i64 P) (by first | assumption | go_cell) hb, cell_below (a := ⟨Bf, 3, none⟩) (v := .int .i64 Q) (by first | assumption | go_cell) hb⟩)
      replace FZ := Lib.hid (show Fz w5 Bf from ⟨Nat.lt_of_lt_of_le (by first | assumption | (simp; omega)) hb.size, frozen_belowF (a := ⟨Bf, 0, none⟩) (by first | assumption | go_simp) (by first | assumption | (simp; omega)) hb, frozen_belowF (a := ⟨Bf, 1, none⟩) (by first | assumption | go_simp) (by first | assumption | (simp; omega)) hb, frozen_belowF (a := ⟨Bf, 2, none⟩) (by first | assumption | go_simp) (by first | assumption | (simp; omega)) hb, frozen_belowF (a := ⟨Bf, 3, none⟩) (by first | assumption | go_simp) (by first | assumption | (simp; omega)) hb⟩)
      replace BX := Lib.hid (Below.next (show Below w2.heap.size w2 _ from Below.setCell BX.out hBf _) hb)
      clear hb d0 d1 d2 d3 hlt f0 f1 f2 f3
      cases hok : fogOk K 1 P Q
      · have HV := Lib.hid (HN0.out hok)
        clear hok
        obtain ⟨z0, z1, z2, z3⟩ := ZC.out.below BX.out
        obtain ⟨_, y0, y1, y2, y3⟩ := ZF.out.below BX.out
        go_wp2_with (fail)
        refine bodyPost_ret (v := .tuple #[.agg #[.int .i64 0, .int .i64 0, .int .i64 0, .int .i64 0], .bool false]) (by simp [results, Tryz.results9, go_sem, *]) rfl ⟨by rw [HV.out], ?_⟩
        iterate 4 (refine Below.setCell ?_ (by exact Nat.le_refl _) _)
        exact Below.next AC.out BX.out
      · have hft : fogText K 1 P Q = fogT K 1 P Q := by unfold fogText; rw [if_pos hok]
        obtain ⟨d0, d1, d2, d3⟩ := FC.out
        obtain ⟨hlt, f0, f1, f2, f3⟩ := FZ.out
        go_wp2_with (go_at_call 10; (refine (HFT.out K 1 P Q _ (BS1.out.below BX.out)).mono ?_); rintro e w6 ⟨rfl, hb⟩; refine Hid.out ?_)
        refine Lib.hid ?_
        replace FC := Lib.hid (show FogCellsI w6 Bf K 1 P Q from ⟨cell_below (a := ⟨Bf, 0, none⟩) (v := .int .i64 K) (by first | assumption | go_cell) hb, cell_below (a := ⟨Bf, 1, none⟩) (v := .int .i64 1) (by first | assumption | go_cell) hb, cell_below (a := ⟨Bf, 2, none⟩) (v := .int .i64 P) (by first | assumption | go_cell) hb, cell_below (a := ⟨Bf, 3, none⟩) (v := .int .i64 Q) (by first | assumption | go_cell) hb⟩)
        replace FZ := Lib.hid (show Fz w6 Bf from ⟨Nat.lt_of_lt_of_le (by first | assumption | (simp; omega)) hb.size, frozen_belowF (a := ⟨Bf, 0, none⟩) (by first | assumption | go_simp) (by first | assumption | (simp; omega)) hb, frozen_belowF (a := ⟨Bf, 1, none⟩) (by first | assumption | go_simp) (by first | assumption | (simp; omega)) hb, frozen_belowF (a := ⟨Bf, 2, none⟩) (by first | assumption | go_simp) (by first | assumption | (simp; omega)) hb, frozen_belowF (a := ⟨Bf, 3, none⟩) (by first | assumption | go_simp) (by first | assumption | (simp; omega)) hb⟩)
        replace BX := Lib.hid (Below.next (show Below w2.heap.size w2 _ from BX.out) hb)
        clear hb d0 d1 d2 d3 hlt f0 f1 f2 f3
        try rw [hft]
        by_cases he : fogT K 1 P Q = s
        · obtain ⟨t1, t2⟩ := str_eq he
          have HV := Lib.hid (HU.out hok he)
          clear hok he hft
          obtain ⟨d0, d1, d2, d3⟩ := FC.out
          obtain ⟨hlt, f0, f1, f2, f3⟩ := FZ.out
          obtain ⟨z0, z1, z2, z3⟩ := ZC.out.below BX.out
          obtain ⟨_, y0, y1, y2, y3⟩ := ZF.out.below BX.out
          go_wp2_with (fail)
          refine bodyPost_ret (v := .tuple #[.agg #[.int .i64 K, .int .i64 1, .int .i64 P, .int .i64 Q], .bool true]) (by simp [results, Tryz.results9, go_sem, *]) rfl ⟨by rw [HV.out], ?_⟩
          iterate 4 (refine Below.setCell ?_ (by exact Nat.le_refl _) _)
          exact Below.next AC.out BX.out
        · obtain ⟨t1, t2⟩ := str_ne he
          have HV := Lib.hid (HN1.out he)
          clear hok he hft
          obtain ⟨z0, z1, z2, z3⟩ := ZC.out.below BX.out
          obtain ⟨_, y0, y1, y2, y3⟩ := ZF.out.below BX.out
          go_wp2_with (fail)
          refine bodyPost_ret (v := .tuple #[.agg #[.int .i64 0, .int .i64 0, .int .i64 0, .int .i64 0], .bool false]) (by simp [results, Tryz.results9, go_sem, *]) rfl ⟨by rw [HV.out], ?_⟩
          iterate 4 (refine Below.setCell ?_ (by exact Nat.le_refl _) _)
          exact Below.next AC.out BX.out
    · have hL1 : L = l0 := EL.out
      subst hL1
      obtain ⟨d0, d1, d2, d3⟩ := FC.out
      obtain ⟨hlt, f0, f1, f2, f3⟩ := FZ.out
      go_wp2_with (go_at_call 28; (refine (HD1.out _ (BS1.out.below BX.out)).mono ?_); rintro e w3 ⟨rfl, hb⟩; refine Hid.out ?_)
      replace k2 := cell_below (cell_below k2 BX.out) hb
      refine Lib.hid ?_
      replace FC := Lib.hid (show FogCellsI w3 Bf K 1 P 0 from ⟨cell_below (a := ⟨Bf, 0, none⟩) (v := .int .i64 K) (by first | assumption | go_cell) hb, cell_below (a := ⟨Bf, 1, none⟩) (v := .int .i64 1) (by first | assumption | go_cell) hb, cell_below (a := ⟨Bf, 2, none⟩) (v := .int .i64 P) (by first | assumption | go_cell) hb, cell_below (a := ⟨Bf, 3, none⟩) (v := .int .i64 0) (by first | assumption | go_cell) hb⟩)
      replace FZ := Lib.hid (show Fz w3 Bf from ⟨Nat.lt_of_lt_of_le (by first | assumption | (simp; omega)) hb.size, frozen_belowF (a := ⟨Bf, 0, none⟩) (by first | assumption | go_simp) (by first | assumption | (simp; omega)) hb, frozen_belowF (a := ⟨Bf, 1, none⟩) (by first | assumption | go_simp) (by first | assumption | (simp; omega)) hb, frozen_belowF (a := ⟨Bf, 2, none⟩) (by first | assumption | go_simp) (by first | assumption | (simp; omega)) hb, frozen_belowF (a := ⟨Bf, 3, none⟩) (by first | assumption | go_simp) (by first | assumption | (simp; omega)) hb⟩)
      replace BX := Lib.hid (Below.next (show Below w2.heap.size w2 _ from BX.out) hb)
      clear hb d0 d1 d2 d3 hlt f0 f1 f2 f3
      obtain ⟨d0, d1, d2, d3⟩ := FC.out
      obtain ⟨hlt, f0, f1, f2, f3⟩ := FZ.out
      go_wp2_with (go_at_call 28; (refine (HD2.out _ (BS1.out.below (Below.setCell BX.out hBf _))).mono ?_); rintro e w4 ⟨rfl, hb⟩; refine Hid.out ?_)
      refine Lib.hid ?_
      replace FC := Lib.hid (show FogCellsI w4 Bf K L P 0 from ⟨cell_below (a := ⟨Bf, 0, none⟩) (v := .int .i64 K) (by first | assumption | go_cell) hb, cell_below (a := ⟨Bf, 1, none⟩) (v := .int .i64 L) (by first | assumption | go_cell) hb, cell_below (a := ⟨Bf, 2, none⟩) (v := .int .i64 P) (by first | assumption | go_cell) hb, cell_below (a := ⟨Bf, 3, none⟩) (v := .int .i64 0) (by first | assumption | go_cell) hb⟩)
      replace FZ := Lib.hid (show Fz w4 Bf from ⟨Nat.lt_of_lt_of_le (by first | assumption | (simp; omega)) hb.size, frozen_belowF (a := ⟨Bf, 0, none⟩) (by first | assumption | go_simp) (by first | assumption | (simp; omega)) hb, frozen_belowF (a := ⟨Bf, 1, none⟩) (by first | assumption | go_simp) (by first | assumption | (simp; omega)) hb, frozen_belowF (a := ⟨Bf, 2, none⟩) (by first | assumption | go_simp) (by first | assumption | (simp; omega)) hb, frozen_belowF (a := ⟨Bf, 3, none⟩) (by first | assumption | go_simp) (by first | assumption | (simp; omega)) hb⟩)
      replace BX := Lib.hid (Below.next (show Below w2.heap.size w2 _ from Below.setCell BX.out hBf _) hb)
      clear hb d0 d1 d2 d3 hlt f0 f1 f2 f3 k2
      obtain ⟨d0, d1, d2, d3⟩ := FC.out
      obtain ⟨hlt, f0, f1, f2, f3⟩ := FZ.out
      go_wp2_with (go_at_call 22; (refine (HVF.out K L P Q _ (BS1.out.below (Below.setCell BX.out hBf _))).mono ?_); rintro e w5 ⟨rfl, hb⟩; refine Hid.out ?_)
      refine Lib.hid ?_
      replace FC := Lib.hid (show FogCellsI w5 Bf K L P Q from ⟨cell_below (a := ⟨Bf, 0, none⟩) (v := .int .i64 K) (by first | assumption | go_cell) hb, cell_below (a := ⟨Bf, 1, none⟩) (v := .int .i64 L) (by first | assumption | go_cell) hb, cell_below (a := ⟨Bf, 2, none⟩) (v := .int .i64 P) (by first | assumption | go_cell) hb, cell_below (a := ⟨Bf, 3, none⟩) (v := .int .i64 Q) (by first | assumption | go_cell) hb⟩)
      replace FZ := Lib.hid (show Fz w5 Bf from ⟨Nat.lt_of_lt_of_le (by first | assumption | (simp; omega)) hb.size, frozen_belowF (a := ⟨Bf, 0, none⟩) (by first | assumption | go_simp) (by first | assumption | (simp; omega)) hb, frozen_belowF (a := ⟨Bf, 1, none⟩) (by first | assumption | go_simp) (by first | assumption | (simp; omega)) hb, frozen_belowF (a := ⟨Bf, 2, none⟩) (by first | assumption | go_simp) (by first | assumption | (simp; omega)) hb, frozen_belowF (a := ⟨Bf, 3, none⟩) (by first | assumption | go_simp) (by first | assumption | (simp; omega)) hb⟩)
      replace BX := Lib.hid (Below.next (show Below w2.heap.size w2 _ from Below.setCell BX.out hBf _) hb)
      clear hb d0 d1 d2 d3 hlt f0 f1 f2 f3
      cases hok : fogOk K L P Q
      · have HV := Lib.hid (HN0.out hok)
        clear hok
        obtain ⟨z0, z1, z2, z3⟩ := ZC.out.below BX.out
        obtain ⟨_, y0, y1, y2, y3⟩ := ZF.out.below BX.out
        go_wp2_with (fail)
        refine bodyPost_ret (v := .tuple #[.agg #[.int .i64 0, .int .i64 0, .int .i64 0, .int .i64 0], .bool false]) (by simp [results, Tryz.results9, go_sem, *]) rfl ⟨by rw [HV.out], ?_⟩
        iterate 4 (refine Below.setCell ?_ (by exact Nat.le_refl _) _)
        exact Below.next AC.out BX.out
      · have hft : fogText K L P Q = fogT K L P Q := by unfold fogText; rw [if_pos hok]
        obtain ⟨d0, d1, d2, d3⟩ := FC.out
        obtain ⟨hlt, f0, f1, f2, f3⟩ := FZ.out
        go_wp2_with (go_at_call 10; (refine (HFT.out K L P Q _ (BS1.out.below BX.out)).mono ?_); rintro e w6 ⟨rfl, hb⟩; refine Hid.out ?_)
        refine Lib.hid ?_
        replace FC := Lib.hid (show FogCellsI w6 Bf K L P Q from ⟨cell_below (a := ⟨Bf, 0, none⟩) (v := .int .i64 K) (by first | assumption | go_cell) hb, cell_below (a := ⟨Bf, 1, none⟩) (v := .int .i64 L) (by first | assumption | go_cell) hb, cell_below (a := ⟨Bf, 2, none⟩) (v := .int .i64 P) (by first | assumption | go_cell) hb, cell_below (a := ⟨Bf, 3, none⟩) (v := .int .i64 Q) (by first | assumption | go_cell) hb⟩)
        replace FZ := Lib.hid (show Fz w6 Bf from ⟨Nat.lt_of_lt_of_le (by first | assumption | (simp; omega)) hb.size, frozen_belowF (a := ⟨Bf, 0, none⟩) (by first | assumption | go_simp) (by first | assumption | (simp; omega)) hb, frozen_belowF (a := ⟨Bf, 1, none⟩) (by first | assumption | go_simp) (by first | assumption | (simp; omega)) hb, frozen_belowF (a := ⟨Bf, 2, none⟩) (by first | assumption | go_simp) (by first | assumption | (simp; omega)) hb, frozen_belowF (a := ⟨Bf, 3, none⟩) (by first | assumption | go_simp) (by first | assumption | (simp; omega)) hb⟩)
        replace BX := Lib.hid (Below.next (show Below w2.heap.size w2 _ from BX.out) hb)
        clear hb d0 d1 d2 d3 hlt f0 f1 f2 f3
        try rw [hft]
        by_cases he : fogT K L P Q = s
        · obtain ⟨t1, t2⟩ := str_eq he
          have HV := Lib.hid (HU.out hok he)
          clear hok he hft
          obtain ⟨d0, d1, d2, d3⟩ := FC.out
          obtain ⟨hlt, f0, f1, f2, f3⟩ := FZ.out
          obtain ⟨z0, z1, z2, z3⟩ := ZC.out.below BX.out
          obtain ⟨_, y0, y1, y2, y3⟩ := ZF.out.below BX.out
          go_wp2_with (fail)
          refine bodyPost_ret (v := .tuple #[.agg #[.int .i64 K, .int .i64 L, .int .i64 P, .int .i64 Q], .bool true]) (by simp [results, Tryz.results9, go_sem, *]) rfl ⟨by rw [HV.out], ?_⟩
          iterate 4 (refine Below.setCell ?_ (by exact Nat.le_refl _) _)
          exact Below.next AC.out BX.out
        · obtain ⟨t1, t2⟩ := str_ne he
          have HV := Lib.hid (HN1.out he)
          clear hok he hft
          obtain ⟨z0, z1, z2, z3⟩ := ZC.out.below BX.out
          obtain ⟨_, y0, y1, y2, y3⟩ := ZF.out.below BX.out
          go_wp2_with (fail)
          refine bodyPost_ret (v := .tuple #[.agg #[.int .i64 0, .int .i64 0, .int .i64 0, .int .i64 0], .bool false]) (by simp [results, Tryz.results9, go_sem, *]) rfl ⟨by rw [HV.out], ?_⟩
          iterate 4 (refine Below.setCell ?_ (by exact Nat.le_refl _) _)
          exact Below.next AC.out BX.out
set_option maxRecDepth 100000 in
theorem readfog_any (s : ByteArray) (ea ep eq : Addr) (w : World) (hs : s.size ≤ 1048576) (hB : RdBase ea ep eq w) :
    Calls Tryz.prog 9 #[.string s] w (RdRet (rdF s) w) := by
  by_cases h : (cutS 32 s).length = 3
  · obtain ⟨a, b, c, hw⟩ : ∃ a b c, cutS 32 s = [a, b, c] := by
      match cutS 32 s, h with
      | [a, b, c], _ => exact ⟨a, b, c, rfl⟩
    rw [rdF_three hw]
    exact readfog_three s a b c ea ep eq w hs hw hB
  · exact readfog_len s w hs h hB.2.2.2.1
end Go.Proofs.YthheacebafleeacGreatDoor
