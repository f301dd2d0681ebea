/- Reading a fog signal: the model's search. -/
import Derived.Test.YtbfhnfoaipaljaaDoorRdgT
namespace Go.Proofs.YtbfhnfoaipaljaaDoor
open Go.ChangeShapes Go.WideShapes Go.ChangeAt Go.RowKit Pm

set_option maxRecDepth 100000 in
set_option maxHeartbeats 4000000 in
theorem sreadfog_good (s a b c : ByteArray) (w : World) (hs : s.size ≤ 1048576) (hw : cutS 32 s = [a, b, c]) (hc : canB c.data.toList = true) :
    Calls Tryd.prog 42 #[.string s] w (RdRet (rd3 s a b c) w) := by
  have OK := Lib.hid (rdok_of hw)
  have HFD := Lib.hid (fun k l p ok ha hb => rd3_found (k := k) (l := l) (p := p) hw hc ok ha hb)
  have HNO := Lib.hid (rd3_no (s := s) (a := a) (b := b) (c := c))
  have HSP := Lib.hid (fun w' => ssplit_any s 32 w' hs)
  rw [hw] at HSP
  have zs := cut_sizes hw
  have hnu := fun w' => snum_any c w' (by unfold maxLen; omega)
  rw [hc] at hnu
  have HNU := Lib.hid hnu
  clear hnu
  generalize numR c.data.toList = Q at *
  generalize rd3 s a b c = r at *
  clear hw hc zs hs
  unfold RdRet
  go_enter Tryd.func42, Tryd.ntmps42
  go_wp2_with (go_at_call 80; (refine (HSP.out _).mono ?_); rintro e w1 ⟨v, rfl, ho, hb⟩; refine Hid.out ?_)
  refine Lib.hid ?_
  have zc := (zero4 w 27).1.below hb
  have zf := (zero4 w 27).2.below hb
  have AC := Lib.hid (Below.next (a := w) (by go_grown) hb)
  clear hb
  rw [strV_len] at ho
  obtain ⟨g, cap, rfl, _, _⟩ := ho.form (show 0 < [a, b, c].length by simp)
  have k0 : w1.cell? ⟨g, 0, none⟩ = some (.string a) := ho.cellAt 0 (by simp)
  have k1 : w1.cell? ⟨g, 1, none⟩ = some (.string b) := ho.cellAt 1 (by simp)
  have k2 : w1.cell? ⟨g, 2, none⟩ = some (.string c) := ho.cellAt 2 (by simp)
  clear ho HSP
  have hne : ((([a, b, c] : List ByteArray).length : Int) != 3) = false := rfl
  have ZC := Lib.hid zc
  have ZF := Lib.hid zf
  have BR := Lib.hid (Below.refl w1.heap.size w1)
  clear zc zf
  go_wp2_with (go_at_call 81; (refine (HNU.out _).mono ?_); rintro e w' ⟨rfl, rfl⟩)
  go_loopw [7] (fun kv wr => ∃ k : Int, 1 ≤ k ∧ k ≤ 5 ∧ kv = .int .i64 k ∧ In1 r k ∧ Below w1.heap.size w1 wr) (fun kv _ => (5 - intOf kv).toNat)
  case atStart => exact ⟨1, by omega, by omega, rfl, in1_start OK.out, BR.out⟩
  case round =>
    obtain ⟨k, hk1, hk5, rfl, hi1, hbel⟩ := hrel
    have I1 := Lib.hid hi1
    have B1 := Lib.hid hbel
    clear hi1 hbel
    obtain ⟨wo, rfl⟩ : ∃ wo : World, wo = wr := ⟨_, rfl⟩
    by_cases hk4 : k ≤ 4
    · obtain ⟨n, hlt, hn4, KN⟩ : ∃ n : Nat, n < 4 ∧ (n : Int) < 4 ∧ Hid ((n : Int) + 1 = k ∧ k - 1 = (n : Int)) := ⟨(k - 1).toNat, by omega, by omega, Lib.hid ⟨by omega, by omega⟩⟩
      go_wp2_with (fail)
      go_loopw [8] (fun lv wr => ∃ l : Int, 1 ≤ l ∧ l ≤ 7 ∧ lv = .int .i64 l ∧ In2 r k l ∧ Below w1.heap.size w1 wr) (fun lv _ => (7 - intOf lv).toNat)
      case atStart => exact ⟨1, by omega, by omega, rfl, in2_start OK.out I1.out, B1.out⟩
      case round =>
        obtain ⟨l, l0, l1, rfl, hi2, hbel⟩ := hrel
        have I2 := Lib.hid hi2
        have B2 := Lib.hid hbel
        clear hi2 hbel
        by_cases hl : l ≤ 6
        · have hsh := shape_in hk1 hk4 l0 hl
          have HL0 := fun Bf w c0 c1 => sfogleast_any Bf k l w c0 c1 hsh
          have HDL := Lib.hid (fun w => sdecT_any l w (by omega) (by omega))
          have zd := decT_size (n := l) (by omega) (by omega)
          have zn := fogNm_size k
          have hhd1 : 1 < l → fogHead k l = fogNm k ++ (⟨#[40]⟩ ++ decT l ++ ⟨#[41]⟩) := fun hb => by unfold fogHead; rw [if_pos hb]
          have hhd2 : ¬ 1 < l → fogHead k l = fogNm k := fun hb => by unfold fogHead; rw [if_neg hb]
          obtain ⟨hh, eh⟩ : ∃ x, x = fogHead k l := ⟨_, rfl⟩
          rw [← eh] at hhd1 hhd2
          have HH := Lib.hid eh.symm
          clear eh
          have HHD := Lib.hid (And.intro hhd1 hhd2)
          clear hhd1 hhd2
          have HL0 := Lib.hid HL0
          go_wp2_with (go_at_call 46; (refine (snames_any _).mono ?_); rintro e w3 ⟨g2, rfl, hc2, hb⟩; refine Hid.out ?_)
          refine Lib.hid ?_
          obtain ⟨Bf, hBe⟩ : ∃ B : Nat, B = wr.heap.size := ⟨_, rfl⟩
          have FC := Lib.hid (show FogCells w3 wr.heap.size k l 0 Q from ⟨cell_below (a := ⟨wr.heap.size, 0, none⟩) (v := .int .i64 k) (by first | assumption | go_cell) hb, cell_below (a := ⟨wr.heap.size, 1, none⟩) (v := .int .i64 l) (by first | assumption | go_cell) hb, cell_below (a := ⟨wr.heap.size, 2, none⟩) (v := .int .i64 0) (by first | assumption | go_cell) hb, cell_below (a := ⟨wr.heap.size, 3, none⟩) (v := .int .i64 Q) (by first | assumption | go_cell) hb⟩)
          have FZ := Lib.hid (show Fz w3 wr.heap.size from ⟨Nat.lt_of_lt_of_le (by first | assumption | simp | (simp; omega)) hb.size, frozen_belowF (a := ⟨wr.heap.size, 0, none⟩) (by first | assumption | go_simp) (by first | assumption | simp | (simp; omega)) hb, frozen_belowF (a := ⟨wr.heap.size, 1, none⟩) (by first | assumption | go_simp) (by first | assumption | simp | (simp; omega)) hb, frozen_belowF (a := ⟨wr.heap.size, 2, none⟩) (by first | assumption | go_simp) (by first | assumption | simp | (simp; omega)) hb, frozen_belowF (a := ⟨wr.heap.size, 3, none⟩) (by first | assumption | go_simp) (by first | assumption | simp | (simp; omega)) hb⟩)
          have BX := Lib.hid (Below.next (show Below w1.heap.size w1 _ from B2.out.alloc B2.out.size _) hb)
          have hBf : w1.heap.size ≤ wr.heap.size := B2.out.size
          rw [← hBe] at FC FZ hBf ⊢
          have c9 := hc2 n hlt
          rw [show (n : Int) + 1 = k from KN.out.1] at c9
          have kn1 := KN.out.2
          have kn2 : IntKind.i64.wrap (k - 1) = (n : Int) := by rw [kn1]; exact IntWalk.i64_in _ ⟨by omega, by omega⟩
          clear hc2 hb hBe
          have HL := Lib.hid (fun w c0 c1 => HL0.out Bf w c0 c1)
          clear HL0
          generalize fogNm k = nm at *
          generalize decT l = bd at *
          by_cases hb1 : 1 < l
          · have ehd := HHD.out.1 hb1
            have g1 := fun w => run_string_add_sum (P := Tryd.prog) (w := w) ⟨#[40]⟩ bd (by rw [one_size]; omega)
            have g2' := fun w => run_string_add_sum (P := Tryd.prog) (w := w) (⟨#[40]⟩ ++ bd) ⟨#[41]⟩ (by simp only [ByteArray.size_append, one_size]; omega)
            have g3 := fun w => run_string_add_sum (P := Tryd.prog) (w := w) nm (⟨#[40]⟩ ++ bd ++ ⟨#[41]⟩) (by simp only [ByteArray.size_append, one_size]; omega)
            rw [← ehd] at g3
            clear ehd HHD
            go_wp2_with (go_at_call 82; (refine (HDL.out _).mono ?_); rintro e w4 ⟨rfl, hb⟩; refine Hid.out ?_)
            refine Lib.hid ?_
            replace FC := Lib.hid (FC.out.below hb)
            replace FZ := Lib.hid (FZ.out.below hb)
            replace BX := Lib.hid (Below.next BX.out hb)
            clear hb c9 kn1 kn2
            by_cases ha : a = hh
            · have HA2 := Lib.hid (show a = fogHead k l from ha.trans HH.out.symm)
              obtain ⟨t1, t2⟩ := str_eq ha
              have I3 := Lib.hid (in3_start OK.out hsh (ha.trans HH.out.symm))
              clear ha
              replace k0 := cell_below k0 BX.out
              obtain ⟨d0, d1, d2, d3⟩ := FC.out
              go_wp2_with (go_at_call 53; (refine (HL.out _ d0 d1).mono ?_); rintro e w5 ⟨rfl, hb⟩; refine Hid.out ?_)
              refine Lib.hid ?_
              replace FC := Lib.hid (show FogCells w5 Bf k l 0 Q from FC.out.below hb)
              replace FZ := Lib.hid (show Fz w5 Bf from FZ.out.below hb)
              replace BX := Lib.hid (Below.next BX.out hb)
              clear hb d0 d1 d2 d3 t1 t2 k0
              obtain ⟨d0, d1, d2, d3⟩ := FC.out
              obtain ⟨hlt, f0, f1, f2, f3⟩ := FZ.out
              obtain ⟨lb0, lb1⟩ := least_bd hsh
              have HLB := Lib.hid lb0
              generalize fogLeast k l = lst at *
              go_wp2_with (fail)
              go_loopw [] (fun wr => ∃ p : Int, (0 ≤ p ∧ p ≤ 1201) ∧ FogCells wr Bf k l p Q ∧ Fz wr Bf ∧ Below w1.heap.size w1 wr ∧ In3 r k l p) (fun wr => match wr.cell? ⟨Bf, 2, none⟩ with | some (.int _ z) => (1201 - z).toNat | _ => 0)
              case atStart => exact ⟨lst, by omega, ⟨by go_cell, by go_cell, by go_cell, by go_cell⟩, ⟨by first | assumption | (simp; done) | (simp; omega), by go_simp, by go_simp, by go_simp, by go_simp⟩, Below.setCell BX.out hBf _, I3.out⟩
              case round =>
                obtain ⟨p, hp, fc, fz, hbel, hi3⟩ := hrel
                clear FC FZ BX d0 d1 d2 d3 hlt f0 f1 f2 f3 I3
                have FC := Lib.hid fc
                have FZ := Lib.hid fz
                have BX := Lib.hid hbel
                have I3 := Lib.hid hi3
                obtain ⟨p0, p1⟩ := hp
                clear fz hbel hi3
                obtain ⟨d0, d1, d2, d3⟩ := fc
                by_cases hp : p ≤ 1200
                · have HSC := Lib.hid (fun w => sseconds_any p w (by omega) (by omega))
                  have hok0 := fun w h => sfogok_any Bf k l p Q w h
                  by_cases he : secT p = b
                  · obtain ⟨t1, t2⟩ := str_eq he
                    have hz : True := trivial
                    cases hok : fogOk k l p Q
                    · have HOK := Lib.hid (fun w h => hok ▸ hok0 w h)
                      have NX := Lib.hid (in3_no OK.out I3.out hok)
                      clear hok0 hok he
                      go_wp2_with (fail)
                      obtain ⟨S, hcl, hS0, kR⟩ := clxG (w := wr) (fun w' => FogCells w' Bf k l p Q ∧ Fz w' Bf ∧ w'.cell? ⟨g, 1, none⟩ = some (.string b) ∧ Below w1.heap.size w1 w') (fun _ _ ⟨x1, x2, x3, x4⟩ hb => ⟨x1.below hb, x2.below hb, cell_below x3 hb, Below.next x4 hb⟩) ⟨FC.out, FZ.out, cell_below k1 BX.out, BX.out⟩
                      have hne' : Nonempty (Clx S) := ⟨⟨_, hS0⟩⟩
                      have q2 := fun x => (kR x).1.2.2.1
                      have q5 := fun x => (kR x).2.2.1
                      have KR := Lib.hid kR
                      clear kR d0 d1 d2 d3
                      refine wp_region_clx S (by kernel_rfl) (by kernel_rfl) hS0 ?_
                      repeat (go_big_quiet_step (first | (go_at_call 83; exact Clx.call hcl _ (HSC.out _)) | (go_at_call 48; exact Clx.call hcl _ (HOK.out _ (KR.out _).1))))
                      refine wpQuiet_nil ?_
                      intro _ hw'
                      obtain ⟨x, rfl⟩ := hw'
                      obtain ⟨fc, fz, _, bx⟩ := KR.out x
                      clear q2 q5
                      obtain ⟨d0, d1, d2, d3⟩ := fc
                      obtain ⟨hlt, f0, f1, f2, f3⟩ := fz
                      have BX2 := Lib.hid bx
                      clear bx
                      go_wp2_with (fail)
                      go_roundw
                      case rel => exact ⟨p + 1, by omega, ⟨by go_cell, by go_cell, by go_cell, by go_cell⟩, ⟨by first | assumption | (simp; done) | (simp; omega), by go_simp, by go_simp, by go_simp, by go_simp⟩, Below.setCell BX2.out hBf _, NX.out⟩
                      case measure =>
                        have e1 : (x.v.setCell ⟨Bf, 2, none⟩ (.int .i64 (p + 1))).cell? ⟨Bf, 2, none⟩ = some (.int .i64 (p + 1)) := by go_cell
                        rw [e1, FC.out.2.2.1]
                        show (1201 - (p + 1)).toNat < (1201 - p).toNat
                        omega
                    · have HOK := Lib.hid (fun w h => hok ▸ hok0 w h)
                      have HV := Lib.hid (HFD.out k l p hok (HA2.out) he)
                      clear hok0 hok he
                      go_wp2_with (fail)
                      obtain ⟨S, hcl, hS0, kR⟩ := clxG (w := wr) (fun w' => FogCells w' Bf k l p Q ∧ Fz w' Bf ∧ w'.cell? ⟨g, 1, none⟩ = some (.string b) ∧ Below w1.heap.size w1 w') (fun _ _ ⟨x1, x2, x3, x4⟩ hb => ⟨x1.below hb, x2.below hb, cell_below x3 hb, Below.next x4 hb⟩) ⟨FC.out, FZ.out, cell_below k1 BX.out, BX.out⟩
                      have hne' : Nonempty (Clx S) := ⟨⟨_, hS0⟩⟩
                      have q2 := fun x => (kR x).1.2.2.1
                      have q5 := fun x => (kR x).2.2.1
                      have KR := Lib.hid kR
                      clear kR d0 d1 d2 d3
                      refine wp_region_clx S (by kernel_rfl) (by kernel_rfl) hS0 ?_
                      repeat (go_big_quiet_step (first | (go_at_call 83; exact Clx.call hcl _ (HSC.out _)) | (go_at_call 48; exact Clx.call hcl _ (HOK.out _ (KR.out _).1))))
                      refine wpQuiet_nil ?_
                      intro _ hw'
                      obtain ⟨x, rfl⟩ := hw'
                      obtain ⟨fc, fz, _, bx⟩ := KR.out x
                      clear q2 q5
                      obtain ⟨d0, d1, d2, d3⟩ := fc
                      obtain ⟨hlt, f0, f1, f2, f3⟩ := fz
                      have BX2 := Lib.hid bx
                      clear bx
                      obtain ⟨z0, z1, z2, z3⟩ := ZC.out.below BX2.out
                      obtain ⟨_, y0, y1, y2, y3⟩ := ZF.out.below BX2.out
                      go_wp2_with (fail)
                      refine bodyPost_ret (v := .tuple #[.agg #[.int .i64 k, .int .i64 l, .int .i64 p, .int .i64 Q], .bool true]) (by simp [results, Tryd.results42, go_sem, *]) rfl ⟨by rw [HV.out], ?_⟩
                      iterate 4 (refine Below.setCell ?_ (by exact Nat.le_refl _) _)
                      exact Below.next AC.out BX2.out
                  · obtain ⟨t1, t2⟩ := str_ne he
                    have HOK := Lib.hid hok0
                    have NX := Lib.hid (in3_ne OK.out I3.out he)
                    clear hok0 he
                    go_wp2_with (fail)
                    obtain ⟨S, hcl, hS0, kR⟩ := clxG (w := wr) (fun w' => FogCells w' Bf k l p Q ∧ Fz w' Bf ∧ w'.cell? ⟨g, 1, none⟩ = some (.string b) ∧ Below w1.heap.size w1 w') (fun _ _ ⟨x1, x2, x3, x4⟩ hb => ⟨x1.below hb, x2.below hb, cell_below x3 hb, Below.next x4 hb⟩) ⟨FC.out, FZ.out, cell_below k1 BX.out, BX.out⟩
                    have hne' : Nonempty (Clx S) := ⟨⟨_, hS0⟩⟩
                    have q2 := fun x => (kR x).1.2.2.1
                    have q5 := fun x => (kR x).2.2.1
                    have KR := Lib.hid kR
                    clear kR d0 d1 d2 d3
                    refine wp_region_clx S (by kernel_rfl) (by kernel_rfl) hS0 ?_
                    repeat (go_big_quiet_step (first | (go_at_call 83; exact Clx.call hcl _ (HSC.out _)) | (go_at_call 48; exact Clx.call hcl _ (HOK.out _ (KR.out _).1))))
                    refine wpQuiet_nil ?_
                    intro _ hw'
                    obtain ⟨x, rfl⟩ := hw'
                    obtain ⟨fc, fz, _, bx⟩ := KR.out x
                    clear q2 q5
                    obtain ⟨d0, d1, d2, d3⟩ := fc
                    obtain ⟨hlt, f0, f1, f2, f3⟩ := fz
                    have BX2 := Lib.hid bx
                    clear bx
                    go_wp2_with (fail)
                    go_roundw
                    case rel => exact ⟨p + 1, by omega, ⟨by go_cell, by go_cell, by go_cell, by go_cell⟩, ⟨by first | assumption | (simp; done) | (simp; omega), by go_simp, by go_simp, by go_simp, by go_simp⟩, Below.setCell BX2.out hBf _, NX.out⟩
                    case measure =>
                      have e1 : (x.v.setCell ⟨Bf, 2, none⟩ (.int .i64 (p + 1))).cell? ⟨Bf, 2, none⟩ = some (.int .i64 (p + 1)) := by go_cell
                      rw [e1, FC.out.2.2.1]
                      show (1201 - (p + 1)).toNat < (1201 - p).toNat
                      omega
                · have NX := Lib.hid (in3_end OK.out I3.out (by omega))
                  go_wp2_with (fail)
                  go_roundw
                  case rel => exact ⟨l + 1, by omega, by omega, rfl, NX.out, BX.out⟩
                  case measure => simp [intOf]; omega
            · obtain ⟨t1, t2⟩ := str_ne ha
              have NX := Lib.hid (in2_ne OK.out I2.out (fun e => ha (e.trans HH.out)))
              clear ha
              replace k0 := cell_below k0 BX.out
              go_wp2_with (fail)
              go_roundw
              case rel => exact ⟨l + 1, by omega, by omega, rfl, NX.out, BX.out⟩
              case measure => simp [intOf]; omega
          · have ehd := HHD.out.2 (by omega)
            rw [← ehd] at c9
            clear ehd HHD
            by_cases ha : a = hh
            · have HA2 := Lib.hid (show a = fogHead k l from ha.trans HH.out.symm)
              obtain ⟨t1, t2⟩ := str_eq ha
              have I3 := Lib.hid (in3_start OK.out hsh (ha.trans HH.out.symm))
              clear ha
              replace k0 := cell_below k0 BX.out
              obtain ⟨d0, d1, d2, d3⟩ := FC.out
              go_wp2_with (go_at_call 53; (refine (HL.out _ d0 d1).mono ?_); rintro e w5 ⟨rfl, hb⟩; refine Hid.out ?_)
              refine Lib.hid ?_
              replace FC := Lib.hid (show FogCells w5 Bf k l 0 Q from FC.out.below hb)
              replace FZ := Lib.hid (show Fz w5 Bf from FZ.out.below hb)
              replace BX := Lib.hid (Below.next BX.out hb)
              clear hb d0 d1 d2 d3 t1 t2 k0
              obtain ⟨d0, d1, d2, d3⟩ := FC.out
              obtain ⟨hlt, f0, f1, f2, f3⟩ := FZ.out
              obtain ⟨lb0, lb1⟩ := least_bd hsh
              have HLB := Lib.hid lb0
              generalize fogLeast k l = lst at *
              go_wp2_with (fail)
              go_loopw [] (fun wr => ∃ p : Int, (0 ≤ p ∧ p ≤ 1201) ∧ FogCells wr Bf k l p Q ∧ Fz wr Bf ∧ Below w1.heap.size w1 wr ∧ In3 r k l p) (fun wr => match wr.cell? ⟨Bf, 2, none⟩ with | some (.int _ z) => (1201 - z).toNat | _ => 0)
              case atStart => exact ⟨lst, by omega, ⟨by go_cell, by go_cell, by go_cell, by go_cell⟩, ⟨by first | assumption | (simp; done) | (simp; omega), by go_simp, by go_simp, by go_simp, by go_simp⟩, Below.setCell BX.out hBf _, I3.out⟩
              case round =>
                obtain ⟨p, hp, fc, fz, hbel, hi3⟩ := hrel
                clear FC FZ BX d0 d1 d2 d3 hlt f0 f1 f2 f3 I3
                have FC := Lib.hid fc
                have FZ := Lib.hid fz
                have BX := Lib.hid hbel
                have I3 := Lib.hid hi3
                obtain ⟨p0, p1⟩ := hp
                clear fz hbel hi3
                obtain ⟨d0, d1, d2, d3⟩ := fc
                by_cases hp : p ≤ 1200
                · have HSC := Lib.hid (fun w => sseconds_any p w (by omega) (by omega))
                  have hok0 := fun w h => sfogok_any Bf k l p Q w h
                  by_cases he : secT p = b
                  · obtain ⟨t1, t2⟩ := str_eq he
                    have hz : True := trivial
                    cases hok : fogOk k l p Q
                    · have HOK := Lib.hid (fun w h => hok ▸ hok0 w h)
                      have NX := Lib.hid (in3_no OK.out I3.out hok)
                      clear hok0 hok he
                      go_wp2_with (fail)
                      obtain ⟨S, hcl, hS0, kR⟩ := clxG (w := wr) (fun w' => FogCells w' Bf k l p Q ∧ Fz w' Bf ∧ w'.cell? ⟨g, 1, none⟩ = some (.string b) ∧ Below w1.heap.size w1 w') (fun _ _ ⟨x1, x2, x3, x4⟩ hb => ⟨x1.below hb, x2.below hb, cell_below x3 hb, Below.next x4 hb⟩) ⟨FC.out, FZ.out, cell_below k1 BX.out, BX.out⟩
                      have hne' : Nonempty (Clx S) := ⟨⟨_, hS0⟩⟩
                      have q2 := fun x => (kR x).1.2.2.1
                      have q5 := fun x => (kR x).2.2.1
                      have KR := Lib.hid kR
                      clear kR d0 d1 d2 d3
                      refine wp_region_clx S (by kernel_rfl) (by kernel_rfl) hS0 ?_
                      repeat (go_big_quiet_step (first | (go_at_call 83; exact Clx.call hcl _ (HSC.out _)) | (go_at_call 48; exact Clx.call hcl _ (HOK.out _ (KR.out _).1))))
                      refine wpQuiet_nil ?_
                      intro _ hw'
                      obtain ⟨x, rfl⟩ := hw'
                      obtain ⟨fc, fz, _, bx⟩ := KR.out x
                      clear q2 q5
                      obtain ⟨d0, d1, d2, d3⟩ := fc
                      obtain ⟨hlt, f0, f1, f2, f3⟩ := fz
                      have BX2 := Lib.hid bx
                      clear bx
                      go_wp2_with (fail)
                      go_roundw
                      case rel => exact ⟨p + 1, by omega, ⟨by go_cell, by go_cell, by go_cell, by go_cell⟩, ⟨by first | assumption | (simp; done) | (simp; omega), by go_simp, by go_simp, by go_simp, by go_simp⟩, Below.setCell BX2.out hBf _, NX.out⟩
                      case measure =>
                        have e1 : (x.v.setCell ⟨Bf, 2, none⟩ (.int .i64 (p + 1))).cell? ⟨Bf, 2, none⟩ = some (.int .i64 (p + 1)) := by go_cell
                        rw [e1, FC.out.2.2.1]
                        show (1201 - (p + 1)).toNat < (1201 - p).toNat
                        omega
                    · have HOK := Lib.hid (fun w h => hok ▸ hok0 w h)
                      have HV := Lib.hid (HFD.out k l p hok (HA2.out) he)
                      clear hok0 hok he
                      go_wp2_with (fail)
                      obtain ⟨S, hcl, hS0, kR⟩ := clxG (w := wr) (fun w' => FogCells w' Bf k l p Q ∧ Fz w' Bf ∧ w'.cell? ⟨g, 1, none⟩ = some (.string b) ∧ Below w1.heap.size w1 w') (fun _ _ ⟨x1, x2, x3, x4⟩ hb => ⟨x1.below hb, x2.below hb, cell_below x3 hb, Below.next x4 hb⟩) ⟨FC.out, FZ.out, cell_below k1 BX.out, BX.out⟩
                      have hne' : Nonempty (Clx S) := ⟨⟨_, hS0⟩⟩
                      have q2 := fun x => (kR x).1.2.2.1
                      have q5 := fun x => (kR x).2.2.1
                      have KR := Lib.hid kR
                      clear kR d0 d1 d2 d3
                      refine wp_region_clx S (by kernel_rfl) (by kernel_rfl) hS0 ?_
                      repeat (go_big_quiet_step (first | (go_at_call 83; exact Clx.call hcl _ (HSC.out _)) | (go_at_call 48; exact Clx.call hcl _ (HOK.out _ (KR.out _).1))))
                      refine wpQuiet_nil ?_
                      intro _ hw'
                      obtain ⟨x, rfl⟩ := hw'
                      obtain ⟨fc, fz, _, bx⟩ := KR.out x
                      clear q2 q5
                      obtain ⟨d0, d1, d2, d3⟩ := fc
                      obtain ⟨hlt, f0, f1, f2, f3⟩ := fz
                      have BX2 := Lib.hid bx
                      clear bx
                      obtain ⟨z0, z1, z2, z3⟩ := ZC.out.below BX2.out
                      obtain ⟨_, y0, y1, y2, y3⟩ := ZF.out.below BX2.out
                      go_wp2_with (fail)
                      refine bodyPost_ret (v := .tuple #[.agg #[.int .i64 k, .int .i64 l, .int .i64 p, .int .i64 Q], .bool true]) (by simp [results, Tryd.results42, go_sem, *]) rfl ⟨by rw [HV.out], ?_⟩
                      iterate 4 (refine Below.setCell ?_ (by exact Nat.le_refl _) _)
                      exact Below.next AC.out BX2.out
                  · obtain ⟨t1, t2⟩ := str_ne he
                    have HOK := Lib.hid hok0
                    have NX := Lib.hid (in3_ne OK.out I3.out he)
                    clear hok0 he
                    go_wp2_with (fail)
                    obtain ⟨S, hcl, hS0, kR⟩ := clxG (w := wr) (fun w' => FogCells w' Bf k l p Q ∧ Fz w' Bf ∧ w'.cell? ⟨g, 1, none⟩ = some (.string b) ∧ Below w1.heap.size w1 w') (fun _ _ ⟨x1, x2, x3, x4⟩ hb => ⟨x1.below hb, x2.below hb, cell_below x3 hb, Below.next x4 hb⟩) ⟨FC.out, FZ.out, cell_below k1 BX.out, BX.out⟩
                    have hne' : Nonempty (Clx S) := ⟨⟨_, hS0⟩⟩
                    have q2 := fun x => (kR x).1.2.2.1
                    have q5 := fun x => (kR x).2.2.1
                    have KR := Lib.hid kR
                    clear kR d0 d1 d2 d3
                    refine wp_region_clx S (by kernel_rfl) (by kernel_rfl) hS0 ?_
                    repeat (go_big_quiet_step (first | (go_at_call 83; exact Clx.call hcl _ (HSC.out _)) | (go_at_call 48; exact Clx.call hcl _ (HOK.out _ (KR.out _).1))))
                    refine wpQuiet_nil ?_
                    intro _ hw'
                    obtain ⟨x, rfl⟩ := hw'
                    obtain ⟨fc, fz, _, bx⟩ := KR.out x
                    clear q2 q5
                    obtain ⟨d0, d1, d2, d3⟩ := fc
                    obtain ⟨hlt, f0, f1, f2, f3⟩ := fz
                    have BX2 := Lib.hid bx
                    clear bx
                    go_wp2_with (fail)
                    go_roundw
                    case rel => exact ⟨p + 1, by omega, ⟨by go_cell, by go_cell, by go_cell, by go_cell⟩, ⟨by first | assumption | (simp; done) | (simp; omega), by go_simp, by go_simp, by go_simp, by go_simp⟩, Below.setCell BX2.out hBf _, NX.out⟩
                    case measure =>
                      have e1 : (x.v.setCell ⟨Bf, 2, none⟩ (.int .i64 (p + 1))).cell? ⟨Bf, 2, none⟩ = some (.int .i64 (p + 1)) := by go_cell
                      rw [e1, FC.out.2.2.1]
                      show (1201 - (p + 1)).toNat < (1201 - p).toNat
                      omega
                · have NX := Lib.hid (in3_end OK.out I3.out (by omega))
                  go_wp2_with (fail)
                  go_roundw
                  case rel => exact ⟨l + 1, by omega, by omega, rfl, NX.out, BX.out⟩
                  case measure => simp [intOf]; omega
            · obtain ⟨t1, t2⟩ := str_ne ha
              have NX := Lib.hid (in2_ne OK.out I2.out (fun e => ha (e.trans HH.out)))
              clear ha
              replace k0 := cell_below k0 BX.out
              go_wp2_with (fail)
              go_roundw
              case rel => exact ⟨l + 1, by omega, by omega, rfl, NX.out, BX.out⟩
              case measure => simp [intOf]; omega
        · have NX := Lib.hid (in2_end OK.out I2.out (by omega))
          go_wp2_with (fail)
          go_roundw
          case rel => exact ⟨k + 1, by omega, by omega, rfl, NX.out, B2.out⟩
          case measure => simp [intOf]; omega
    · have HV := Lib.hid (HNO.out (in1_end OK.out I1.out (by omega)))
      obtain ⟨z0, z1, z2, z3⟩ := ZC.out.below B1.out
      obtain ⟨_, y0, y1, y2, y3⟩ := ZF.out.below B1.out
      go_wp2_with (fail)
      refine bodyPost_ret (v := .tuple #[.agg #[.int .i64 0, .int .i64 0, .int .i64 0, .int .i64 0], .bool false]) (by simp [results, Tryd.results42, go_sem, *]) rfl ⟨by rw [HV.out], ?_⟩
      iterate 4 (refine Below.setCell ?_ (by exact Nat.le_refl _) _)
      exact Below.next AC.out B1.out
theorem sreadfog_any (s : ByteArray) (w : World) (hs : s.size ≤ 1048576) :
    Calls Tryd.prog 42 #[.string s] w (RdRet (rdF s) w) := by
  by_cases h : (cutS 32 s).length = 3
  · obtain ⟨a, b, c, hw⟩ : ∃ a b c, cutS 32 s = [a, b, c] := by
      match cutS 32 s, h with
      | [a, b, c], _ => exact ⟨a, b, c, rfl⟩
    rw [rdF_three hw]
    cases hc : canB c.data.toList
    · exact sreadfog_bad s a b c w hs hw hc
    · exact sreadfog_good s a b c w hs hw hc
  · exact sreadfog_len s w hs h
end Go.Proofs.YtbfhnfoaipaljaaDoor
