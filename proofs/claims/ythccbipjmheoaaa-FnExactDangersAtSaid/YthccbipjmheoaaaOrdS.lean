/- A valid list of dangers: both words whole. -/
import Derived.Test.YthccbipjmheoaaaOrd
namespace Go.Proofs.Ythccbipjmheoaaa
open Go.ChangeShapes Go.WideShapes Go.ChangeAt Go.RowKit Pm

theorem validdgs_any (sv : Value) (ps : List Dg) (w : World) (hl : ps.length ≤ 1048576) (hsz : ∀ i, i < ps.length → (ps.getD i dg0).1.size ≤ maxLen) (hs : DgAre w sv ps) :
    Calls Try.prog 26 #[sv] w fun e w' => e = .returned (.bool (validDs ps)) ∧ Below w.heap.size w w' := by
  have HI := Lib.hid (isord_any sv ps w hl hsz hs)
  obtain ⟨a, cap, rfl, _⟩ := hs
  generalize validDs ps = r at *
  go_enter Try.func26, Try.ntmps26
  go_wp2_with (go_at_call 58; refine HI.out.mono ?_; rintro e w1 ⟨rfl, hb⟩; have AC := Lib.hid hb; clear hb)
  go_ret
  exact ⟨rfl, AC.out⟩
set_option maxRecDepth 100000 in
set_option maxHeartbeats 4000000 in
theorem sokdgs_any (sv : Value) (ps : List Dg) (w : World) (hl : ps.length ≤ 1048576) (hsz : ∀ i, i < ps.length → (ps.getD i dg0).1.size ≤ maxLen) (hs : DgAre w sv ps) :
    Calls Try.prog 57 #[sv] w fun e w' => e = .returned (.bool (validDs ps)) ∧ Below w.heap.size w w' := by
  obtain ⟨a, cap, rfl, _, h⟩ := hs
  rcases h with rfl | ⟨b, off, rfl, hc⟩
  · have hA := Lib.hid (show validDs [] = true from rfl)
    go_enter Try.func57, Try.ntmps57
    go_wp2
    go_rounds 1
    go_ret
    exact ⟨retB hA.out.symm, Below.refl _ _⟩
  · have HC := Lib.hid hc
    have HVD := Lib.hid (show validDs ps = (decide (ps.length ≤ 24) && (List.range ps.length).all (goodAt ps)) from rfl)
    clear hc
    go_enter Try.func57, Try.ntmps57
    go_wp2_with (fail)
    go_loopw [3] (fun i wr => ∃ k : Nat, k ≤ ps.length ∧ i = .int .i64 k ∧ (∀ j, j < k → goodAt ps j = true) ∧ Below w.heap.size w wr) (fun i _ => ps.length - (intOf i).toNat)
    case atStart => exact ⟨0, Nat.zero_le _, rfl, fun j hj => by omega, Below.refl _ _⟩
    case round =>
      obtain ⟨k, hk, rfl, hall, hbel⟩ := hrel
      have HALL := Lib.hid hall
      have HB := Lib.hid hbel
      clear hall
      by_cases hlt : k < ps.length
      · have hkn : (k : Int) < (ps.length : Int) := by omega
        have D0 : DgAt wr b (off + k * 4) (ps.getD k dg0) := ⟨cell_below (HC.out k hlt).1 hbel, cell_below (HC.out k hlt).2.1 hbel, cell_below (HC.out k hlt).2.2.1 hbel, cell_below (HC.out k hlt).2.2.2 hbel⟩
        have D1 : 0 < k → DgAt wr b (off + (k - 1) * 4) (ps.getD (k - 1) dg0) := fun _ => ⟨cell_below (HC.out (k - 1) (by omega)).1 hbel, cell_below (HC.out (k - 1) (by omega)).2.1 hbel, cell_below (HC.out (k - 1) (by omega)).2.2.1 hbel, cell_below (HC.out (k - 1) (by omega)).2.2.2 hbel⟩
        have hs1 := hsz k hlt
        have HSTEP := Lib.hid (show goodAt ps k = true → ∀ j, j < k + 1 → goodAt ps j = true from fun hg j hj => by
          by_cases h : j < k
          · exact HALL.out j h
          · obtain rfl : j = k := by omega
            exact hg)
        have HBAD := Lib.hid (show goodAt ps k = false → validDs ps = false from fun hg => by rw [HVD.out, dgs_bad ps k hlt hg, Bool.and_false])
        have HG := Lib.hid (show goodAt ps k = (okD (ps.getD k dg0) && (k == 0 || ltN (ps.getD (k - 1) dg0).1 (ps.getD k dg0).1)) from rfl)
        obtain ⟨V, hV⟩ : ∃ V, V = okD (ps.getD k dg0) := ⟨_, rfl⟩
        rw [← hV] at HG
        have H1 := Lib.hid (fun w' h => sone_any b (off + k * 4) (ps.getD k dg0) w' hs1 h)
        rw [← hV] at H1
        clear hV hs1
        generalize ps.getD k dg0 = q at *
        generalize ps.getD (k - 1) dg0 = q' at *
        obtain ⟨S, hcl, hS0, kR⟩ := clxG12o (w := wr) (fun w' => DgAt w' b (off + k * 4) q ∧ (0 < k → DgAt w' b (off + (k - 1) * 4) q') ∧ Below w.heap.size w w') (fun _ _ ⟨x0, x1, x2⟩ hb => ⟨x0.below hb, fun h => (x1 h).below hb, Below.next x2 hb⟩) ⟨D0, D1, hbel⟩
        have m0 := fun p : Clx S => (kR p).1.1
        have KR := Lib.hid kR
        have hnS : Nonempty (Clx S) := ⟨⟨_, hS0⟩⟩
        clear kR D0 D1 hbel
        cases V
        · go_wp2_with (fail)
          refine wp_region_clx S (by kernel_rfl) (by kernel_rfl) hS0 ?_
          repeat (go_big_quiet_step ((go_at_call 54; exact Clx.call hcl _ (H1.out _ (KR.out _).1))))
          refine wpQuiet_nil ?_
          intro _ hw'
          obtain ⟨p, rfl⟩ := hw'
          have HB2 := Lib.hid (KR.out p).2.2
          go_wp2
          go_ret
          exact ⟨retB (HBAD.out (by rw [HG.out]; rfl)).symm, HB2.out⟩
        · by_cases hk0 : k = 0
          · have hk1 : ¬ 0 < k := by omega
            have hk2 : decide (0 < k) = false := decide_eq_false hk1
            have HGT := Lib.hid (show goodAt ps k = true by rw [HG.out, hk0]; rfl)
            clear hk0
            go_wp2_with (fail)
            refine wp_region_clx S (by kernel_rfl) (by kernel_rfl) hS0 ?_
            repeat (go_big_quiet_step ((go_at_call 54; exact Clx.call hcl _ (H1.out _ (KR.out _).1))))
            refine wpQuiet_nil ?_
            intro _ hw'
            obtain ⟨p, rfl⟩ := hw'
            have HB2 := Lib.hid (KR.out p).2.2
            go_wp2_with (fail)
            go_roundw
            case rel => exact ⟨k + 1, by omega, by go_num, HSTEP.out HGT.out, HB2.out⟩
            case measure => simp [intOf]; omega
          · have hk1 : 0 < k := by omega
            have hk2 : decide (0 < k) = true := decide_eq_true hk1
            have hkm : (k : Int) - 1 = ((k - 1 : Nat) : Int) := by omega
            have hkl : ((k - 1 : Nat) : Int) < (ps.length : Int) := by omega
            have q0 := fun p : Clx S => ((KR.out p).2.1 (by omega)).1
            have HG2 := Lib.hid (show goodAt ps k = Op.bytesLess q'.1.toList q.1.toList by rw [HG.out]; simp [hk0, ltN])
            clear hk0
            cases hb1 : Op.bytesLess q'.1.toList q.1.toList
            · have HGF := Lib.hid (show validDs ps = false from HBAD.out (by rw [HG2.out, hb1]))
              go_wp2_with (fail)
              refine wp_region_clx S (by kernel_rfl) (by kernel_rfl) hS0 ?_
              repeat (go_big_quiet_step ((go_at_call 54; exact Clx.call hcl _ (H1.out _ (KR.out _).1))))
              refine wpQuiet_nil ?_
              intro _ hw'
              obtain ⟨p, rfl⟩ := hw'
              have HB2 := Lib.hid (KR.out p).2.2
              go_wp2_with (fail)
              go_ret
              exact ⟨retB HGF.out.symm, HB2.out⟩
            · have HGT := Lib.hid (show goodAt ps k = true by rw [HG2.out, hb1])
              go_wp2_with (fail)
              refine wp_region_clx S (by kernel_rfl) (by kernel_rfl) hS0 ?_
              repeat (go_big_quiet_step ((go_at_call 54; exact Clx.call hcl _ (H1.out _ (KR.out _).1))))
              refine wpQuiet_nil ?_
              intro _ hw'
              obtain ⟨p, rfl⟩ := hw'
              have HB2 := Lib.hid (KR.out p).2.2
              go_wp2_with (fail)
              go_roundw
              case rel => exact ⟨k + 1, by omega, by go_num, HSTEP.out HGT.out, HB2.out⟩
              case measure => simp [intOf]; omega
      · have HV := Lib.hid (show decide ((ps.length : Int) ≤ 24) = validDs ps by rw [HVD.out, dgs_upto ps k HALL.out (by omega), Bool.and_true, decide_eq_decide]; omega)
        clear hbel
        obtain rfl : k = ps.length := by omega
        go_wp2
        go_ret
        exact ⟨by simpa using HV.out, HB.out⟩
theorem svaliddgs_any (sv : Value) (ps : List Dg) (w : World) (hl : ps.length ≤ 1048576) (hsz : ∀ i, i < ps.length → (ps.getD i dg0).1.size ≤ maxLen) (hs : DgAre w sv ps) :
    Calls Try.prog 24 #[sv] w fun e w' => e = .returned (.bool (validDs ps)) ∧ Below w.heap.size w w' := by
  have HI := Lib.hid (sokdgs_any sv ps w hl hsz hs)
  obtain ⟨a, cap, rfl, _⟩ := hs
  generalize validDs ps = r at *
  go_enter Try.func24, Try.ntmps24
  go_wp2_with (go_at_call 57; refine HI.out.mono ?_; rintro e w1 ⟨rfl, hb⟩; have AC := Lib.hid hb; clear hb)
  go_ret
  exact ⟨rfl, AC.out⟩
end Go.Proofs.Ythccbipjmheoaaa
