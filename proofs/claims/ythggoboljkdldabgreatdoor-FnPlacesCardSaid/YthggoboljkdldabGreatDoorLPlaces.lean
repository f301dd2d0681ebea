/- The law of places. -/
import Derived.Test.YthggoboljkdldabGreatDoorPlcM
import Derived.Test.YthggoboljkdldabGreatDoorTxtX
import Derived.LoopTactic
import Derived.Deep.RegionHeld3
import Derived.Deep.Cut
import Derived.Deep.CutRange
namespace Go.Proofs.YthggoboljkdldabGreatDoor
open Go.ChangeShapes Go.WideShapes Go.ChangeAt Go.RowKit Pm

set_option maxRecDepth 100000 in
set_option maxHeartbeats 8000000 in
theorem places_small (sv0 sv1 : Value) (z0 z1 : List Int) (w : World) (h0 : ArgIn .u8 w sv0 z0) (h1 : ArgIn .u8 w sv1 z1) (hz0 : BytesAre z0) (hz1 : BytesAre z1) (hl0 : z0.length ≤ 1048576) (hl1 : z1.length ≤ 1048576)
    (HLa : Hid (∀ w, Calls Tryz.prog 4 #[sv0] w fun e w' => e = .returned (.bool false) ∧ w = w')) (HLb : Hid (∀ w, Calls Tryz.prog 4 #[sv1] w fun e w' => e = .returned (.bool false) ∧ w = w'))
    (HLn : Hid (LenAt w)) (HP : Hid (PowAt w)) (HEr : Hid (ErrsAt w)) :
    Calls Tryz.prog 3 #[sv0, sv1] w fun e w' => e = .returned (.bool true) ∧ Below w.heap.size w w' := by
  have hA0 := Lib.hid h0
  have hA1 := Lib.hid h1
  clear h0 h1
  go_enter Tryz.func3, Tryz.ntmps3
  go_wp2_with (first
    | (go_at_call 4; (first | refine (HLa.out _).mono ?_ | refine (HLb.out _).mono ?_); rintro e w1 ⟨rfl, rfl⟩)
    | (go_at_call 5; refine (draw_between _ _ _ hA0.out hz0 hl0).mono ?_; rintro e w1 ⟨ax, ay, bx, cy, i, n, ⟨_, _⟩, ⟨_, _⟩, ⟨_, _⟩, ⟨_, _⟩, ⟨i0, i1⟩, ⟨n0, n1⟩, rfl, hb1⟩; refine Hid.out ?_))
  refine Lib.hid ?_
  have ac1 := hb1
  have az1 := ac1.size
  clear hb1
  obtain ⟨eE, eX, eY⟩ := btw_swap ax ay bx cy i n
  have HBa := Lib.hid (fun w => between_any ax ay bx cy i n w)
  have HBb := Lib.hid (fun w => between_any bx cy ax ay (n - i) n w)
  rw [eE, eX, eY] at HBb
  have HYES := Lib.hid (fun h => btw_yes (ax := ax) (ay := ay) (bx := bx) (cy := cy) (i := i) (n := n) h)
  clear eE eX eY
  generalize btwPX ax ay bx cy i n = PX at *
  generalize btwPY ax ay bx cy i n = PY at *
  generalize btwE ax ay bx cy i n = E at *
  go_wp2_with (go_at_call 6; refine (HBa.out _).mono ?_; rintro e w2 ⟨rfl, hb⟩; refine Hid.out ?_)
  refine Lib.hid ?_
  have ac2 := Below.next (a := w) (by go_grown) hb
  have az2 := ac2.size
  have lz2 : w1.heap.size + 1 < w2.heap.size := by have := hb.size; (try simp at this); omega
  have ly2 : w1.heap.size < w2.heap.size := by omega
  have ca0 := cell_below (a := ⟨w1.heap.size, 0, none⟩) (v := .int .i64 ax) (by go_cell) hb
  have ca1 := cell_below (a := ⟨w1.heap.size, 1, none⟩) (v := .int .i64 ay) (by go_cell) hb
  have cb0 := cell_below (a := ⟨w1.heap.size + 1, 0, none⟩) (v := .int .i64 bx) (by go_cell) hb
  have cb1 := cell_below (a := ⟨w1.heap.size + 1, 1, none⟩) (v := .int .i64 cy) (by go_cell) hb
  clear hb ac1
  go_wp2_with (go_at_call 6; refine (HBb.out _).mono ?_; rintro e w3 ⟨rfl, hb⟩; refine Hid.out ?_)
  refine Lib.hid ?_
  have ac3 := Below.next (a := w) (by go_grown) hb
  have az3 := ac3.size
  have lz3 : w2.heap.size < w3.heap.size := by have := hb.size; (try simp at this); omega
  have ly3 : w1.heap.size < w3.heap.size := by omega
  have lx3 : w1.heap.size + 1 < w3.heap.size := by omega
  have da0 := cell_below (a := ⟨w1.heap.size, 0, none⟩) (v := .int .i64 ax) (by go_cell) hb
  have da1 := cell_below (a := ⟨w1.heap.size, 1, none⟩) (v := .int .i64 ay) (by go_cell) hb
  have db0 := cell_below (a := ⟨w1.heap.size + 1, 0, none⟩) (v := .int .i64 bx) (by go_cell) hb
  have db1 := cell_below (a := ⟨w1.heap.size + 1, 1, none⟩) (v := .int .i64 cy) (by go_cell) hb
  have dp0 := cell_below (a := ⟨w2.heap.size, 0, none⟩) (v := .int .i64 PX) (by go_cell) hb
  have dp1 := cell_below (a := ⟨w2.heap.size, 1, none⟩) (v := .int .i64 PY) (by go_cell) hb
  clear hb ca0 ca1 cb0 cb1 ac2
  go_wp2_with (fail)
  go_cut [71] from 55 to 70 (fun c wx => c = .bool false ∧ wx.cell? ⟨w1.heap.size, 0, none⟩ = some (.int .i64 ax) ∧ wx.cell? ⟨w1.heap.size, 1, none⟩ = some (.int .i64 ay) ∧ wx.cell? ⟨w1.heap.size + 1, 0, none⟩ = some (.int .i64 bx) ∧ wx.cell? ⟨w1.heap.size + 1, 1, none⟩ = some (.int .i64 cy) ∧ wx.cell? ⟨w2.heap.size, 0, none⟩ = some (.int .i64 PX) ∧ wx.cell? ⟨w2.heap.size, 1, none⟩ = some (.int .i64 PY) ∧ Below w.heap.size w wx)
  case first =>
    have hs0 : (w3.alloc (.cells #[.int .i64 PX, .int .i64 PY] 25)).cell? ⟨w1.heap.size, 0, none⟩ = some (.int .i64 ax) ∧ (w3.alloc (.cells #[.int .i64 PX, .int .i64 PY] 25)).cell? ⟨w1.heap.size, 1, none⟩ = some (.int .i64 ay) ∧ (w3.alloc (.cells #[.int .i64 PX, .int .i64 PY] 25)).cell? ⟨w1.heap.size + 1, 0, none⟩ = some (.int .i64 bx) ∧ (w3.alloc (.cells #[.int .i64 PX, .int .i64 PY] 25)).cell? ⟨w1.heap.size + 1, 1, none⟩ = some (.int .i64 cy) ∧ (w3.alloc (.cells #[.int .i64 PX, .int .i64 PY] 25)).cell? ⟨w2.heap.size, 0, none⟩ = some (.int .i64 PX) ∧ (w3.alloc (.cells #[.int .i64 PX, .int .i64 PY] 25)).cell? ⟨w2.heap.size, 1, none⟩ = some (.int .i64 PY) ∧ (w3.alloc (.cells #[.int .i64 PX, .int .i64 PY] 25)).cell? ⟨w3.heap.size, 0, none⟩ = some (.int .i64 PX) ∧ (w3.alloc (.cells #[.int .i64 PX, .int .i64 PY] 25)).cell? ⟨w3.heap.size, 1, none⟩ = some (.int .i64 PY) ∧ Below w.heap.size w (w3.alloc (.cells #[.int .i64 PX, .int .i64 PY] 25)) := by
      refine ⟨?_, ?_, ?_, ?_, ?_, ?_, ?_, ?_, ?_⟩ <;> (first | go_cell | go_grown)
    first
      | (go_region_held3 (fun w' => w'.cell? ⟨w1.heap.size, 0, none⟩ = some (.int .i64 ax) ∧ w'.cell? ⟨w1.heap.size, 1, none⟩ = some (.int .i64 ay) ∧ w'.cell? ⟨w1.heap.size + 1, 0, none⟩ = some (.int .i64 bx) ∧ w'.cell? ⟨w1.heap.size + 1, 1, none⟩ = some (.int .i64 cy) ∧ w'.cell? ⟨w2.heap.size, 0, none⟩ = some (.int .i64 PX) ∧ w'.cell? ⟨w2.heap.size, 1, none⟩ = some (.int .i64 PY) ∧ w'.cell? ⟨w3.heap.size, 0, none⟩ = some (.int .i64 PX) ∧ w'.cell? ⟨w3.heap.size, 1, none⟩ = some (.int .i64 PY) ∧ Below w.heap.size w w')
        (first | (with_reducible assumption) | (with_reducible exact keepn8 (by assumption) (by assumption)) | (with_reducible exact drewn8 (by assumption)))
        (first
          | (go_at_call 7; refine (distance_any _ _ _ _ _).mono ?_; rintro e w9 ⟨r, hr, rfl, hb⟩; (first | (have e1 := (dist_comm hr).one hd; subst e1) | (have hd := hr)))))
      | fail
    all_goals
      go_wp2_with (fail)
      go_meet
      exact ⟨by first | rfl | simp, trim86 (by assumption)⟩
  case rest =>
    obtain ⟨rfl, c0, c1, c2, c3, c4, c5, ac4⟩ := hcut
    have az4 := ac4.size
    clear da0 da1 db0 db1 dp0 dp1 ac3 az3 lz3 ly3 lx3 HBa HBb
    go_wp2_with (fail)
    go_cut [94] from 72 to 93 (fun c wx => c = .bool false ∧ Below w.heap.size w wx)
    case first =>
      by_cases hE : E = 0
      · subst hE
        have HT := Lib.hid (HYES.out (by first | rfl | trivial)).1
        have HG := Lib.hid (HYES.out (by first | rfl | trivial)).2
        first
          | (go_region_held3 (fun w' => w'.cell? ⟨w1.heap.size, 0, none⟩ = some (.int .i64 ax) ∧ w'.cell? ⟨w1.heap.size, 1, none⟩ = some (.int .i64 ay) ∧ w'.cell? ⟨w1.heap.size + 1, 0, none⟩ = some (.int .i64 bx) ∧ w'.cell? ⟨w1.heap.size + 1, 1, none⟩ = some (.int .i64 cy) ∧ w'.cell? ⟨w2.heap.size, 0, none⟩ = some (.int .i64 PX) ∧ w'.cell? ⟨w2.heap.size, 1, none⟩ = some (.int .i64 PY) ∧ Below w.heap.size w w')
            (first | (with_reducible assumption) | (with_reducible exact keepn6 (by assumption) (by assumption)) | (with_reducible exact ⟨c0, c1, c2, c3, c4, c5, ac4⟩) | (with_reducible exact drewn6 ⟨c0, c1, c2, c3, c4, c5, ac4⟩) | (with_reducible exact drewn6 (by assumption)))
            (first
              | (go_at_call 7; refine (distance_any _ _ _ _ _).mono ?_; rintro e w9 ⟨r, hr, rfl, hb⟩; (first | (have d3 : DistIs PX PY bx cy _ := hr; have dl3 := (dist_lim hr).1; have dm3 := (dist_lim hr).2; have ht := HT.out _ _ _ d1 d2 d3; have hbf := decide_eq_false (Int.not_lt.2 ht); have hw1 := (sum_wrap dl2 dm2 dl3 dm3).1; have hw2 := (sum_wrap dl2 dm2 dl3 dm3).2) | (have d2 : DistIs ax ay PX PY _ := hr; have dl2 := (dist_lim hr).1; have dm2 := (dist_lim hr).2) | (have d1 : DistIs ax ay bx cy _ := hr)))
              | (go_at_call 8; refine (gap_any _ _ _ _ _ _ _).mono ?_; rintro e w9 ⟨g, hg, rfl, hb⟩; obtain rfl := HG.out _ hg)))
          | fail
        all_goals
          go_wp2_with (fail)
          go_meet
          exact ⟨by first | rfl | simp, keepB6 (by assumption)⟩
      · have hE' : (E == 0) = false := by simp [hE]
        go_quiet (fail)
        all_goals
          go_wp2_with (fail)
          go_meet
          exact ⟨by first | rfl | simp, below_drewN ac4 _⟩
    case rest =>
      obtain ⟨rfl, ac5⟩ := hcut
      have az5 := ac5.size
      clear HYES ac4 az4 c0 c1 c2 c3 c4 c5
      go_wp2_with (go_at_call 9; refine (draw_seg _ _ _ (hA1.out.below ac5) hz1 hl1).mono ?_; rintro e w4 ⟨_, ⟨ax, ay, bx, cy, px, py, ⟨_, _⟩, ⟨_, _⟩, ⟨_, _⟩, ⟨_, _⟩, ⟨_, _⟩, ⟨_, _⟩, rfl⟩, rfl, hb4⟩; refine Hid.out ?_)
      refine Lib.hid ?_
      have ac6 := Below.next ac5 hb4
      have az6 := ac6.size
      clear hb4 ac5 az5
      go_wp2_with (go_at_call 8; refine (gap_any _ _ _ _ _ _ _).mono ?_; rintro e w5 ⟨g, hg, rfl, hb⟩; refine Hid.out ?_)
      refine Lib.hid ?_
      have ac5 := Below.next (a := w) (by go_grown) hb
      have az5 := ac5.size
      have c0 := cell_below (a := ⟨w4.heap.size, 0, none⟩) (v := .int .i64 ax) (by go_cell) hb
      have c1 := cell_below (a := ⟨w4.heap.size, 1, none⟩) (v := .int .i64 ay) (by go_cell) hb
      have c2 := cell_below (a := ⟨w4.heap.size + 1, 0, none⟩) (v := .int .i64 bx) (by go_cell) hb
      have c3 := cell_below (a := ⟨w4.heap.size + 1, 1, none⟩) (v := .int .i64 cy) (by go_cell) hb
      have c4 := cell_below (a := ⟨w4.heap.size + 1 + 1, 0, none⟩) (v := .int .i64 px) (by go_cell) hb
      have c5 := cell_below (a := ⟨w4.heap.size + 1 + 1, 1, none⟩) (v := .int .i64 py) (by go_cell) hb
      have g0 := gap_lim hg
      have HGG := Lib.hid hg
      obtain ⟨sd, hsd⟩ : ∃ sd, sideR ax ay bx cy px py = sd := ⟨_, rfl⟩
      have hsw := side_swap ax ay bx cy px py
      have hsb := side_lim ax ay bx cy px py
      rw [hsd] at hsw hsb
      obtain ⟨sb0, sb1⟩ := hsb
      have HS1 := Lib.hid hsd
      have HS2 := Lib.hid hsw
      have wn1 : IntKind.i64.wrap (- -sd) = sd := by rw [Int.neg_neg]; exact IntWalk.i64_in _ ⟨by omega, by omega⟩
      have wn2 : IntKind.i64.wrap sd = sd := IntWalk.i64_in _ ⟨by omega, by omega⟩
      have hg0 := decide_eq_false (Int.not_lt.2 g0)
      have HGS := Lib.hid (gap_swap HGG.out)
      obtain ⟨D1, hD1⟩ := dist_ex ax ay px py
      obtain ⟨D2, hD2⟩ := dist_ex bx cy px py
      have HD1 := Lib.hid hD1
      have HD2 := Lib.hid hD2
      clear hb hg hsd hsw ac6 az6 hD1 hD2
      go_wp2_with (fail)
      go_cut [152] from 105 to 151 (fun c wx => c = .bool false ∧ Below w.heap.size w wx)
      case first =>
        obtain ⟨S, hcl, hS0, k0, k1, k2, k3, k4, k5, kB⟩ := cls6 ⟨c0, c1, c2, c3, c4, c5, ac5⟩
        have hne : Nonempty (Cls S) := ⟨⟨_, hS0⟩⟩
        clear c0 c1 c2 c3 c4 c5
        cases hvx : inB 0 200000 [ax, ay]
        · refine wp_region_cls S (by kernel_rfl) (by kernel_rfl) hS0 ?_
          repeat (go_big_quiet_step (first
            | (go_at_call 8; (first | (with_reducible exact Cls.call hcl _ (gap_is HGS.out _))))
            | (go_at_call 11; (first | (with_reducible exact Cls.call hcl _ (side_is HS1.out _)) | (with_reducible exact Cls.call hcl _ (side_is HS2.out _))))
            | (go_at_call 10; (first | (with_reducible exact Cls.call hcl _ (svalid_is hvx _)) | (with_reducible exact Cls.call hcl _ (svalid_is hvy _)) | (with_reducible exact Cls.call hcl _ (svalid_is hvz _))))
            | (go_at_call 7; (first | (with_reducible exact Cls.call hcl _ (distance_is HD1.out _)) | (with_reducible exact Cls.call hcl _ (distance_is HD2.out _))))))
          refine wpQuiet_nil ?_
          intro _ hw'
          obtain ⟨p, rfl⟩ := hw'
          go_wp2_with (fail)
          go_meet
          exact ⟨by first | rfl | (simp; done) | simp [wn2], kB p⟩
        · cases hvy : inB 0 200000 [bx, cy]
          · refine wp_region_cls S (by kernel_rfl) (by kernel_rfl) hS0 ?_
            repeat (go_big_quiet_step (first
              | (go_at_call 8; (first | (with_reducible exact Cls.call hcl _ (gap_is HGS.out _))))
              | (go_at_call 11; (first | (with_reducible exact Cls.call hcl _ (side_is HS1.out _)) | (with_reducible exact Cls.call hcl _ (side_is HS2.out _))))
              | (go_at_call 10; (first | (with_reducible exact Cls.call hcl _ (svalid_is hvx _)) | (with_reducible exact Cls.call hcl _ (svalid_is hvy _)) | (with_reducible exact Cls.call hcl _ (svalid_is hvz _))))
              | (go_at_call 7; (first | (with_reducible exact Cls.call hcl _ (distance_is HD1.out _)) | (with_reducible exact Cls.call hcl _ (distance_is HD2.out _))))))
            refine wpQuiet_nil ?_
            intro _ hw'
            obtain ⟨p, rfl⟩ := hw'
            go_wp2_with (fail)
            go_meet
            exact ⟨by first | rfl | (simp; done) | simp [wn2], kB p⟩
          · cases hvz : inB 0 200000 [px, py]
            · refine wp_region_cls S (by kernel_rfl) (by kernel_rfl) hS0 ?_
              repeat (go_big_quiet_step (first
                | (go_at_call 8; (first | (with_reducible exact Cls.call hcl _ (gap_is HGS.out _))))
                | (go_at_call 11; (first | (with_reducible exact Cls.call hcl _ (side_is HS1.out _)) | (with_reducible exact Cls.call hcl _ (side_is HS2.out _))))
                | (go_at_call 10; (first | (with_reducible exact Cls.call hcl _ (svalid_is hvx _)) | (with_reducible exact Cls.call hcl _ (svalid_is hvy _)) | (with_reducible exact Cls.call hcl _ (svalid_is hvz _))))
                | (go_at_call 7; (first | (with_reducible exact Cls.call hcl _ (distance_is HD1.out _)) | (with_reducible exact Cls.call hcl _ (distance_is HD2.out _))))))
              refine wpQuiet_nil ?_
              intro _ hw'
              obtain ⟨p, rfl⟩ := hw'
              go_wp2_with (fail)
              go_meet
              exact ⟨by first | rfl | (simp; done) | simp [wn2], kB p⟩
            · have hq1 := decide_eq_false (Int.not_lt.2 (gap_dist hvx hvy hvz HGG.out HD1.out))
              have hq2 := decide_eq_false (Int.not_lt.2 (gap_dist2 hvx hvy hvz HGG.out HD2.out))
              refine wp_region_cls S (by kernel_rfl) (by kernel_rfl) hS0 ?_
              repeat (go_big_quiet_step (first
                | (go_at_call 8; (first | (with_reducible exact Cls.call hcl _ (gap_is HGS.out _))))
                | (go_at_call 11; (first | (with_reducible exact Cls.call hcl _ (side_is HS1.out _)) | (with_reducible exact Cls.call hcl _ (side_is HS2.out _))))
                | (go_at_call 10; (first | (with_reducible exact Cls.call hcl _ (svalid_is hvx _)) | (with_reducible exact Cls.call hcl _ (svalid_is hvy _)) | (with_reducible exact Cls.call hcl _ (svalid_is hvz _))))
                | (go_at_call 7; (first | (with_reducible exact Cls.call hcl _ (distance_is HD1.out _)) | (with_reducible exact Cls.call hcl _ (distance_is HD2.out _))))))
              refine wpQuiet_nil ?_
              intro _ hw'
              obtain ⟨p, rfl⟩ := hw'
              go_wp2_with (fail)
              go_meet
              exact ⟨by first | rfl | (simp; done) | simp [wn2], kB p⟩
      case rest =>
        obtain ⟨rfl, ac7⟩ := hcut
        have az7 := ac7.size
        clear c0 c1 c2 c3 c4 c5 ac5 az5 HGG HS1 HS2 wn1 hg0
        go_wp2_with (go_at_call 12; refine (draw_nearest _ _ _ (hA1.out.below ac7) hz1 hl1).mono ?_; rintro e w6 ⟨la, lc, ps, px, py, hlen, ⟨_, _⟩, ⟨_, _⟩, rfl, hpts, hb6⟩; refine Hid.out ?_)
        refine Lib.hid ?_
        have ac8 := Below.next ac7 hb6
        have az8 := ac8.size
        have HPT := Lib.hid hpts
        clear hb6 ac7 az7 hpts
        go_wp2_with (go_at_call 13; refine (nearest_any _ _ _ _ _ _ (HPT.out.below (by go_grown))).mono ?_; rintro e w7 ⟨r, hr, rfl, hb⟩; refine Hid.out ?_)
        refine Lib.hid ?_
        have ac9 := Below.next (a := w) (by go_grown) hb
        have az9 := ac9.size
        have lz9 : w6.heap.size < w7.heap.size := by have := hb.size; (try simp at this); omega
        have PT7 := Lib.hid (PtsAre.below (HPT.out.below (by go_grown)) hb)
        have c0 := cell_below (a := ⟨w6.heap.size, 0, none⟩) (v := .int .i64 px) (by go_cell) hb
        have c1 := cell_below (a := ⟨w6.heap.size, 1, none⟩) (v := .int .i64 py) (by go_cell) hb
        clear hb ac8 az8
        by_cases hE : nearE px py ps = 0
        · rw [hE]
          obtain ⟨hc, hall, h64, hne0⟩ := near_zero hE
          have hB : Best (nearF px py ps) ps.length r := by unfold NearIs at hr; rwa [if_pos hE] at hr
          obtain ⟨R, rfl⟩ := Int.eq_ofNat_of_zero_le hB.1
          have hR : R < ps.length := by have := hB.2.1; omega
          have hRi : (R : Int) < (ps.length : Int) := by omega
          obtain ⟨b, off, cap, hv, hcl0⟩ : ∃ b off cap, Value.slice la ps.length lc = .slice (some ⟨b, off, none⟩) ps.length cap ∧ ∀ i, i < ps.length → w7.cell? ⟨b, off + i * 2, none⟩ = some (.int .i64 (ps.getD i (0, 0)).1) ∧ w7.cell? ⟨b, off + i * 2 + 1, none⟩ = some (.int .i64 (ps.getD i (0, 0)).2) := by
            rcases PT7.out with ⟨_, e⟩ | ⟨b, off, cap, h1, _, h3⟩
            · rw [e] at hne0; simp at hne0
            · exact ⟨b, off, cap, h1, h3⟩
          rw [hv]
          have HC := Lib.hid hcl0
          have HBE := Lib.hid hB
          have HAL := Lib.hid hall
          have HCC := Lib.hid hc
          clear hE hB hcl0 hv hr hall hc PT7 HPT hne0
          go_wp2_with (fail)
          go_loopw [21] (fun i wr => ∃ j : Nat, j ≤ ps.length ∧ i = .int .i64 j ∧ Below w7.heap.size w7 wr) (fun i _ => ps.length - (intOf i).toNat)
          case atStart => exact ⟨0, Nat.zero_le _, rfl, by go_grown⟩
          case round =>
            obtain ⟨j, hj, rfl, hbel⟩ := hrel
            have hws := hbel.size
            have d0 := cell_below c0 hbel
            have d1 := cell_below c1 hbel
            by_cases hlt : j < ps.length
            · have hji : (j : Int) < (ps.length : Int) := by omega
              have e0 := cell_below (HC.out j hlt).1 hbel
              have e1 := cell_below (HC.out j hlt).2 hbel
              have f0 := cell_below (HC.out R hR).1 hbel
              have f1 := cell_below (HC.out R hR).2 hbel
              obtain ⟨Dj, hDj⟩ := dist_ex (ps.getD j (0, 0)).1 (ps.getD j (0, 0)).2 px py
              obtain ⟨Dk, hDk⟩ := dist_ex (ps.getD R (0, 0)).1 (ps.getD R (0, 0)).2 px py
              have hle := near_le HBE.out HAL.out HCC.out hlt hR hDj hDk
              generalize (ps.getD j (0, 0)).1 = x1 at *
              generalize (ps.getD j (0, 0)).2 = y1 at *
              generalize (ps.getD R (0, 0)).1 = x2 at *
              generalize (ps.getD R (0, 0)).2 = y2 at *
              have hbf := decide_eq_false (Int.not_lt.2 hle)
              have HD1 := Lib.hid hDj
              have HD2 := Lib.hid hDk
              clear hDj hDk hle
              obtain ⟨S, hcl, hS0, k0, k1, k2, k3, k4, k5, kB⟩ := cls6 ⟨e0, e1, f0, f1, d0, d1, hbel⟩
              have hne : Nonempty (Cls S) := ⟨⟨_, hS0⟩⟩
              clear e0 e1 f0 f1 d0 d1 c0 c1 hbel
              go_wp2_with (fail)
              refine wp_region_cls S (by kernel_rfl) (by kernel_rfl) hS0 ?_
              repeat (go_big_quiet_step (first
                | (go_at_call 14; (first | (with_reducible exact Cls.call hcl _ (sdistance_is HD1.out _)) | (with_reducible exact Cls.call hcl _ (sdistance_is HD2.out _))))))
              refine wpQuiet_nil ?_
              intro _ hw'
              obtain ⟨p, rfl⟩ := hw'
              go_wp2_with (fail)
              go_roundw
              case rel => exact ⟨j + 1, by omega, by go_num, kB p⟩
              case measure => simp [intOf]; omega
            · have acz := ac9.trans (hbel.mono az9)
              have azz := acz.size
              go_wp2_with (first
                | (go_at_call 16; refine (pointtext_any _ _ _ (HP.out.below (by go_grown))).mono ?_; rintro e w8 ⟨rfl, hb⟩; have acy := Below.next (a := w) (by go_grown) hb; have azy := acy.size; have g0 := cell_below d0 hb; have g1 := cell_below d1 hb; have ly : w6.heap.size < w8.heap.size := (by have := hb.size; omega); clear hb)
                | (go_at_call 15; refine (readpt_is _ _ _ HCC.out (HLn.out.below acy) (HP.out.below acy) (HEr.out.below acy)).mono ?_; rintro e w10 ⟨rfl, hb⟩; have acx := Below.next (a := w) (by go_grown) hb; have azx := acx.size; have i0 := cell_below g0 hb; have i1 := cell_below g1 hb; have lx : w6.heap.size < w10.heap.size := (by have := hb.size; omega); clear hb))
              go_ret
              exact ⟨rfl, by go_grown⟩
        · obtain ⟨E3, hE3⟩ : ∃ E, nearE px py ps = E := ⟨_, rfl⟩
          have hr0 : r = 0 := by unfold NearIs at hr; rwa [if_neg hE] at hr
          subst hr0
          rw [hE3] at hE ⊢
          have h3 : (E3 == 0) = false := by simp [hE]
          have h4 : (E3 != 0) = true := by simp [hE]
          clear hr hE3
          go_wp2_with (fail)
          go_ret
          exact ⟨rfl, ac9⟩

set_option maxRecDepth 100000 in
theorem places_law (a0 : Option Addr) (len0 cap0 : Nat) (a1 : Option Addr) (len1 cap1 : Nat) (z0 z1 : List Int) (w : World)
    (h0 : ArgIn .u8 w (.slice a0 len0 cap0) z0) (e0 : z0.length = len0) (b0 : BytesAre z0) (h1 : ArgIn .u8 w (.slice a1 len1 cap1) z1) (e1 : z1.length = len1) (b1 : BytesAre z1)
    (hL : laidMetH Tryz.prog Rows.fnPlacesRow.laid w) (hsh : w.ShapedOpen Tryz.prog) :
    Calls Tryz.prog 3 #[.slice a0 len0 cap0, .slice a1 len1 cap1] w fun e w' => e = .returned (.bool true) ∧ Below w.heap.size w w' := by
  rw [MakeChecks.laidMetH_plain _ _ _ (by kernel_rfl)] at hL
  have hp := pow_of hL
  have hE : ErrsAt w := ⟨range_of hL.tail.tail.tail.tail, syn_of hL.tail.tail.tail.tail.tail⟩
  have hN := len_of hsh
  clear hL hsh
  have H0 := fun w => long_is a0 len0 cap0 w
  have H1 := fun w => long_is a1 len1 cap1 w
  by_cases k0 : (1048576 : Int) < (len0 : Int)
  · simp only [decide_eq_true k0] at H0
    have HL0 := Lib.hid H0
    clear H0 H1 h0 h1 hp hE hN
    go_enter Tryz.func3, Tryz.ntmps3
    go_wp2_with (go_at_call 4; refine (HL0.out _).mono ?_; rintro e w' ⟨rfl, rfl⟩)
    go_ret
    exact ⟨rfl, Below.refl _ _⟩
  · simp only [decide_eq_false k0] at H0
    by_cases k1 : (1048576 : Int) < (len1 : Int)
    · simp only [decide_eq_true k1] at H1
      have HL0 := Lib.hid H0
      have HL1 := Lib.hid H1
      clear H0 H1 h0 h1 hp hE hN
      generalize Value.slice a0 len0 cap0 = sv0 at *
      generalize Value.slice a1 len1 cap1 = sv1 at *
      go_enter Tryz.func3, Tryz.ntmps3
      go_wp2_with (go_at_call 4; (first | refine (HL0.out _).mono ?_ | refine (HL1.out _).mono ?_); rintro e w' ⟨rfl, rfl⟩)
      go_ret
      exact ⟨rfl, Below.refl _ _⟩
    · simp only [decide_eq_false k1] at H1
      exact places_small _ _ z0 z1 w h0 h1 b0 b1 (by omega) (by omega) (Lib.hid H0) (Lib.hid H1) (Lib.hid hN) (Lib.hid hp) (Lib.hid hE)
end Go.Proofs.YthggoboljkdldabGreatDoor
