/- DangersAt: the model's word. -/
import Derived.Test.YthccbipjmheoaaaNmsX
namespace Go.Proofs.Ythccbipjmheoaaa
open Go.ChangeShapes Go.WideShapes Go.ChangeAt Go.RowKit Pm

set_option maxRecDepth 100000 in
set_option maxHeartbeats 4000000 in
theorem sdangersat_any (sv : Value) (ps : List Dg) (px py : Int) (w : World) (hl : ps.length ≤ 1048576) (hsz : ∀ i, i < ps.length → (ps.getD i dg0).1.size ≤ maxLen) (hs : DgAre w sv ps) :
    Calls Try.prog 32 #[sv, .agg #[.int .i64 px, .int .i64 py]] w (NamRet (datN ps px py) (datE ps px py) w) := by
  have HV := fun w' h => sokdgs_any sv ps w' hl hsz h
  have HO := fun w' => sok_any px py w'
  have HG := Lib.hid hs
  obtain ⟨a, c, rfl, _, hrow⟩ := hs
  unfold NamRet
  cases hk : validDs ps
  · rw [hk] at HV
    have HV := Lib.hid HV
    obtain ⟨e1, e2⟩ := dat_no (show datB ps px py = false by unfold datB; rw [hk]; rfl)
    rw [e1, e2]
    clear hk HO e1 e2 hrow
    go_enter Try.func32, Try.ntmps32
    go_wp2_with (go_at_call 57; (refine (HV.out _ (HG.out.below (by go_grown))).mono ?_); rintro e w1 ⟨rfl, hb⟩; have AC := Lib.hid (Below.next (a := w) (by go_grown) hb); clear hb)
    refine bodyPost_ret (v := .tuple #[.slice none 0 0, .int .i64 1]) (by simp [results, Try.results32, go_sem, *]) rfl ⟨_, rfl, OwnSO.none _ _, AC.out⟩
  · rw [hk] at HV
    have HV := Lib.hid HV
    cases hq : inB 0 200000 [px, py]
    · rw [hq] at HO
      have HO := Lib.hid HO
      obtain ⟨e1, e2⟩ := dat_no (show datB ps px py = false by unfold datB; rw [hq, Bool.and_false])
      rw [e1, e2]
      clear hk hq e1 e2 hrow
      go_enter Try.func32, Try.ntmps32
      go_wp2_with (first
        | (go_at_call 57; (refine (HV.out _ (HG.out.below (by go_grown))).mono ?_); rintro e w1 ⟨rfl, hb⟩; have p0 := cell_below (a := ⟨w.heap.size, 0, none⟩) (v := .int .i64 px) (by go_cell) hb; have p1 := cell_below (a := ⟨w.heap.size, 1, none⟩) (v := .int .i64 py) (by go_cell) hb; have AC := Lib.hid (Below.next (a := w) (by go_grown) hb); clear hb)
        | (go_at_call 46; (refine (HO.out _).mono ?_); rintro e w2 ⟨rfl, hb⟩; have AC2 := Lib.hid (Below.next AC.out hb); clear hb))
      refine bodyPost_ret (v := .tuple #[.slice none 0 0, .int .i64 1]) (by simp [results, Try.results32, go_sem, *]) rfl ⟨_, rfl, OwnSO.none _ _, AC2.out⟩
    · rw [hq] at HO
      have HO := Lib.hid HO
      obtain ⟨e1, e2⟩ := dat_in (show datB ps px py = true by unfold datB; rw [hk, hq]; rfl)
      rw [e1, e2]
      obtain ⟨h24, hok⟩ := validDs_parts hk
      have HOK := Lib.hid hok
      have HQ := Lib.hid hq
      clear hk hq e1 e2 hok
      go_enter Try.func32, Try.ntmps32
      go_wp2_with (first
        | (go_at_call 57; (refine (HV.out _ (HG.out.below (by go_grown))).mono ?_); rintro e w1 ⟨rfl, hb⟩; have p0 := cell_below (a := ⟨w.heap.size, 0, none⟩) (v := .int .i64 px) (by go_cell) hb; have p1 := cell_below (a := ⟨w.heap.size, 1, none⟩) (v := .int .i64 py) (by go_cell) hb; have AC := Lib.hid (Below.next (a := w) (by go_grown) hb); clear hb)
        | (go_at_call 46; (refine (HO.out _).mono ?_); rintro e w2 ⟨rfl, hb⟩; refine Hid.out ?_))
      refine Lib.hid ?_
      have P0 := Lib.hid (cell_below p0 hb)
      have P1 := Lib.hid (cell_below p1 hb)
      have AC2 := Lib.hid (Below.next AC.out hb)
      clear hb p0 p1 HV HO
      have hsw : w.heap.size ≤ w2.heap.size := AC2.out.size
      rcases hrow with rfl | ⟨b, off, rfl, hc⟩
      · go_wp2
        go_rounds 1
        refine bodyPost_ret (v := .tuple #[.slice (some ⟨w2.heap.size, 0, none⟩) 0 0, .int .i64 0]) (by simp [results, Try.results32, go_sem, *]) rfl ⟨_, rfl, OwnSO.litd w2 _ _ rfl hsw, AC2.out.alloc AC2.out.size _⟩
      · have HC := Lib.hid hc
        clear hc
        go_wp2_with (fail)
        go_loopw [6, 7] (fun v i wr => ∃ k : Nat, k ≤ ps.length ∧ i = .int .i64 k ∧ OwnSO wr w2.heap.size v (namesB (covB px py) (ps.take k)) ∧ Below w2.heap.size w2 wr) (fun _ i _ => ps.length - (intOf i).toNat)
        case atStart => exact ⟨0, Nat.zero_le _, rfl, OwnSO.litd w2 _ _ rfl (Nat.le_refl _), (Below.refl _ _).alloc (Nat.le_refl _) _⟩
        case round =>
          obtain ⟨k, hk, rfl, hown, hbel⟩ := hrel
          have HOW := Lib.hid hown
          have HB := Lib.hid hbel
          have HBW := Lib.hid (AC2.out.trans (hbel.mono AC2.out.size))
          clear hown
          by_cases hlt : k < ps.length
          · have hkn : (k : Int) < (ps.length : Int) := by omega
            have D0 : DgAt wr b (off + k * 4) (ps.getD k dg0) := ⟨cell_below (HC.out k hlt).1 HBW.out, cell_below (HC.out k hlt).2.1 HBW.out, cell_below (HC.out k hlt).2.2.1 HBW.out, cell_below (HC.out k hlt).2.2.2 HBW.out⟩
            have p0 := cell_below P0.out hbel
            have p1 := cell_below P1.out hbel
            have hokk := okD_parts (HOK.out k hlt)
            have HD := Lib.hid (fun w' => sapart_v ((ps.getD k dg0).2.1, (ps.getD k dg0).2.2.1) (px, py) hokk.2.2.1 HQ.out w')
            have HS := Lib.hid (show namesB (covB px py) (ps.take (k + 1)) = namesB (covB px py) (ps.take k) ++ (if covB px py (ps.getD k dg0) then [(ps.getD k dg0).1] else []) by rw [dg_take ps k hlt, namesB_snoc])
            have hll : (namesB (covB px py) (ps.take k)).length ≤ 1048577 := Nat.le_trans (namesB_len _ _) (by rw [List.length_take]; omega)
            generalize namesB (covB px py) (ps.take k) = L at *
            have HCV := Lib.hid (show covB px py (ps.getD k dg0) = decide (dstV ((ps.getD k dg0).2.1, (ps.getD k dg0).2.2.1) (px, py) ≤ (ps.getD k dg0).2.2.2) from rfl)
            clear hokk
            generalize hqq : ps.getD k dg0 = q at *
            obtain ⟨s, x, y, z⟩ := q
            simp only at HD HCV HS
            clear hqq
            obtain ⟨S, hcl, hS0, kR⟩ := clxG12d (w := wr) (fun w' => DgAt w' b (off + k * 4) (s, x, y, z) ∧ w'.cell? ⟨w.heap.size, 0, none⟩ = some (.int .i64 px) ∧ w'.cell? ⟨w.heap.size, 1, none⟩ = some (.int .i64 py) ∧ OwnSO w' w2.heap.size _ L ∧ Below w2.heap.size w2 w') (fun _ _ ⟨x0, x1, x2, x3, x4⟩ hb => ⟨x0.below hb, cell_below x1 hb, cell_below x2 hb, x3.below hb, Below.next x4 hb⟩) ⟨D0, p0, p1, HOW.out, hbel⟩
            have m1 := fun p : Clx S => (kR p).1.2.1
            have m2 := fun p : Clx S => (kR p).1.2.2.1
            have m3 := fun p : Clx S => (kR p).1.2.2.2
            have m4 := fun p : Clx S => (kR p).2.1
            have m5 := fun p : Clx S => (kR p).2.2.1
            have KR := Lib.hid kR
            have hnS : Nonempty (Clx S) := ⟨⟨_, hS0⟩⟩
            clear kR D0 p0 p1 hbel HOW HB HBW
            generalize dstV (x, y) (px, py) = G at *
            by_cases hgz : G ≤ z
            · have HS2 := Lib.hid (show namesB (covB px py) (ps.take (k + 1)) = L ++ [s] by rw [HS.out, HCV.out, decide_eq_true hgz]; rfl)
              go_wp2_with (fail)
              refine wp_region_clx S (by kernel_rfl) (by kernel_rfl) hS0 ?_
              repeat (go_big_quiet_step ((go_at_call 66; exact Clx.call hcl _ (HD.out _))))
              refine wpQuiet_nil ?_
              intro _ hw'
              obtain ⟨p, rfl⟩ := hw'
              obtain ⟨D1, _, _, O1, B1⟩ := KR.out p
              have d0 := D1.1
              have HO1 := Lib.hid O1
              have HB1 := Lib.hid (AC2.out.trans (B1.mono AC2.out.size))
              have hsz2 : w2.heap.size ≤ p.v.heap.size := B1.size
              have HBB := Lib.hid B1
              clear D1 O1 B1 m1 m2 m3 m4 m5 hnS
              go_wp2_with (at_builtin; (refine wpList_app_so rfl _ _ w2.heap.size _ L s w2 _ _ HO1.out HBB.out (Nat.le_refl _) hll rfl rfl _ rfl rfl ?_))
              intro v5 w5 h5 hb5
              have HO5 := Lib.hid h5
              have HB5 := Lib.hid hb5
              clear h5 hb5
              go_wp2
              go_roundw
              case rel => exact ⟨k + 1, by omega, by go_num, by rw [HS2.out]; exact HO5.out, HB5.out⟩
              case measure => simp [intOf]; omega
            · have HS2 := Lib.hid (show namesB (covB px py) (ps.take (k + 1)) = L by rw [HS.out, HCV.out, decide_eq_false hgz]; simp)
              go_wp2_with (fail)
              refine wp_region_clx S (by kernel_rfl) (by kernel_rfl) hS0 ?_
              repeat (go_big_quiet_step ((go_at_call 66; exact Clx.call hcl _ (HD.out _))))
              refine wpQuiet_nil ?_
              intro _ hw'
              obtain ⟨p, rfl⟩ := hw'
              obtain ⟨_, _, _, O1, B1⟩ := KR.out p
              have HO1 := Lib.hid O1
              have HB1 := Lib.hid B1
              clear O1 B1 m1 m2 m3 m4 m5 hnS
              go_wp2_with (fail)
              go_roundw
              case rel => exact ⟨k + 1, by omega, by go_num, by rw [HS2.out]; exact HO1.out, HB1.out⟩
              case measure => simp [intOf]; omega
          · obtain rfl : k = ps.length := by omega
            have HO := Lib.hid (show OwnSO wr w.heap.size _ (namesB (covB px py) ps) from by have := HOW.out; rw [List.take_of_length_le (Nat.le_refl _)] at this; exact this.mono hsw)
            clear hbel HOW
            go_wp2
            refine bodyPost_ret (v := .tuple #[u6, .int .i64 0]) (by simp [results, Try.results32, go_sem, *]) rfl ⟨_, rfl, HO.out, HBW.out⟩
end Go.Proofs.Ythccbipjmheoaaa
