/- The law of bearings. -/
import Derived.Test.YtochniaofmeheaaDoorBrgF
namespace Go.Proofs.YtochniaofmeheaaDoor
open Go.ChangeShapes Go.WideShapes Go.ChangeAt Go.RowKit Pm

set_option maxRecDepth 100000 in
set_option maxHeartbeats 4000000 in
theorem bearings_small (sv0 sv1 : Value) (z0 z1 : List Int) (w : World) (h0 : ArgIn .u8 w sv0 z0) (h1 : ArgIn .u8 w sv1 z1) (hz0 : BytesAre z0) (hz1 : BytesAre z1) (hl0 : z0.length ≤ 1048576) (hl1 : z1.length ≤ 1048576)
    (HLa : Hid (∀ w, Calls Tryd.prog 8 #[sv0] w fun e w' => e = .returned (.bool false) ∧ w = w')) (HLb : Hid (∀ w, Calls Tryd.prog 8 #[sv1] w fun e w' => e = .returned (.bool false) ∧ w = w'))
    (hS : SinesAt w) :
    Calls Tryd.prog 3 #[sv0, sv1] w fun e w' => e = .returned (.bool true) ∧ Below w.heap.size w w' := by
  have hA0 := Lib.hid h0
  have hA1 := Lib.hid h1
  have HS := Lib.hid hS
  clear h0 h1 hS
  go_enter Tryd.func3, Tryd.ntmps3
  go_wp2_with (first
    | (go_at_call 8; (first | refine (HLa.out _).mono ?_ | refine (HLb.out _).mono ?_); rintro e w1 ⟨rfl, rfl⟩)
    | (go_at_call 9; refine (draw_bearing _ _ _ hA0.out hz0 hl0).mono ?_; rintro e w1 ⟨ax, ay, bx, cy, ⟨_, _⟩, ⟨_, _⟩, ⟨_, _⟩, ⟨_, _⟩, rfl, hb1⟩; refine Hid.out ?_))
  refine Lib.hid ?_
  have ac1 := hb1
  have az1 := ac1.size
  clear hb1
  go_wp2_with (go_at_call 10; refine (bearing_any _ _ _ _ _ (HS.out.below (by go_grown))).mono ?_; rintro e w2 ⟨x, hx, rfl, hb⟩; refine Hid.out ?_)
  refine Lib.hid ?_
  have ac2 := Below.next (a := w) (by go_grown) hb
  have az2 := ac2.size
  have lz2 : w1.heap.size + 1 < w2.heap.size := by have := hb.size; (try simp at this); omega
  have ca0 := cell_below (a := ⟨w1.heap.size, 0, none⟩) (v := .int .i64 ax) (by go_cell) hb
  have ca1 := cell_below (a := ⟨w1.heap.size, 1, none⟩) (v := .int .i64 ay) (by go_cell) hb
  have cb0 := cell_below (a := ⟨w1.heap.size + 1, 0, none⟩) (v := .int .i64 bx) (by go_cell) hb
  have cb1 := cell_below (a := ⟨w1.heap.size + 1, 1, none⟩) (v := .int .i64 cy) (by go_cell) hb
  obtain ⟨x0, x1⟩ := bear_lim hx
  have HX := Lib.hid hx
  clear hb hx ac1
  go_wp2_with (go_at_call 10; refine (bearing_any _ _ _ _ _ (HS.out.below (by go_grown))).mono ?_; rintro e w3 ⟨y, hy, rfl, hb⟩; refine Hid.out ?_)
  refine Lib.hid ?_
  have ac3 := Below.next (a := w) ac2 hb
  have az3 := ac3.size
  have lz3 : w1.heap.size + 1 < w3.heap.size := by have := hb.size; omega
  have da0 := cell_below ca0 hb
  have da1 := cell_below ca1 hb
  have db0 := cell_below cb0 hb
  have db1 := cell_below cb1 hb
  have HY := Lib.hid hy
  clear hb hy ac2 ca0 ca1 cb0 cb1
  by_cases ha : inB 0 200000 [ax, ay] = true
  · by_cases hb' : inB 0 200000 [bx, cy] = true
    · have HOA : Hid (okB (ax, ay) = true) := Lib.hid ha
      have HOB : Hid (okB (bx, cy) = true) := Lib.hid hb'
      by_cases hx1 : ax = bx
      · by_cases hy1 : ay = cy
        · subst hx1 hy1
          have q1 : (ax == ax) = true := by simp
          have q2 : (ay == ay) = true := by simp
          go_wp2_with (first
            | (go_at_call 11; refine (svalid_any _ _ _).mono ?_; rintro e w9 ⟨rfl, hb⟩; have ac := Below.next (a := w) (by go_grown) hb; have az := ac.size; have lz : w1.heap.size + 1 < w9.heap.size := (by have := hb.size; (try simp at this); omega); have ca0 := cell_below (a := ⟨w1.heap.size, 0, none⟩) (v := .int .i64 ax) (by go_cell) hb; have ca1 := cell_below (a := ⟨w1.heap.size, 1, none⟩) (v := .int .i64 ay) (by go_cell) hb; have cb0 := cell_below (a := ⟨w1.heap.size + 1, 0, none⟩) (v := .int .i64 ax) (by go_cell) hb; have cb1 := cell_below (a := ⟨w1.heap.size + 1, 1, none⟩) (v := .int .i64 ay) (by go_cell) hb; clear hb)
            | (go_at_call 12; refine (turn_any _ _ _).mono ?_; rintro e w9 ⟨rfl, hb⟩; rw [HT6.out]; have ac := Below.next (a := w) (by go_grown) hb; have az := ac.size; have lz : w1.heap.size + 1 < w9.heap.size := (by have := hb.size; (try simp at this); omega); have ca0 := cell_below (a := ⟨w1.heap.size, 0, none⟩) (v := .int .i64 ax) (by go_cell) hb; have ca1 := cell_below (a := ⟨w1.heap.size, 1, none⟩) (v := .int .i64 ay) (by go_cell) hb; have cb0 := cell_below (a := ⟨w1.heap.size + 1, 0, none⟩) (v := .int .i64 ax) (by go_cell) hb; have cb1 := cell_below (a := ⟨w1.heap.size + 1, 1, none⟩) (v := .int .i64 ay) (by go_cell) hb; clear hb)
            | (go_at_call 13; refine (sdistance_any _ _ _ _ _).mono ?_; rintro e w5 ⟨d, hd, rfl, hb⟩; refine Hid.out ?_))
          refine Lib.hid ?_
          have acd := Below.next (a := w) (by go_grown) hb
          have azd := acd.size
          have lzd : w1.heap.size + 1 < w5.heap.size := by have := hb.size; (try simp at this); omega
          have da0 := cell_below (a := ⟨w1.heap.size, 0, none⟩) (v := .int .i64 ax) (by go_cell) hb
          have da1 := cell_below (a := ⟨w1.heap.size, 1, none⟩) (v := .int .i64 ay) (by go_cell) hb
          have db0 := cell_below (a := ⟨w1.heap.size + 1, 0, none⟩) (v := .int .i64 ax) (by go_cell) hb
          have db1 := cell_below (a := ⟨w1.heap.size + 1, 1, none⟩) (v := .int .i64 ay) (by go_cell) hb
          clear hb
          obtain ⟨d0, d1⟩ := dist_lim hd
          have HN := Lib.hid (fun r (hE : mvE ax ay x d = 0) hr => near_dist (r := r) HOA.out HOB.out HX.out hd hE hr)
          have HM := Lib.hid (fun w h => move_any ax ay x d w h)
          generalize mvPX ax ay x d = PX at *
          generalize mvPY ax ay x d = PY at *
          generalize mvE ax ay x d = E at *
          have HSd := Lib.hid (HS.out.below acd)
          clear hd
          by_cases hE : E = 0
          · subst hE
            go_wp2_with (go_at_call 14; refine (HM.out _ (HSd.out.below (by go_grown))).mono ?_; rintro e w6 ⟨rfl, hb⟩; refine Hid.out ?_)
            refine Lib.hid ?_
            have ac6 := Below.next acd hb
            have az6 := ac6.size
            have eb0 := cell_below db0 hb
            have eb1 := cell_below db1 hb
            have lz6 : w1.heap.size + 1 < w6.heap.size := by have := hb.size; omega
            clear hb da0 da1 db0 db1
            go_wp2_with (go_at_call 13; refine (sdistance_any _ _ _ _ _).mono ?_; rintro e w7 ⟨r, hr, rfl, hb⟩; refine Hid.out ?_)
            refine Lib.hid ?_
            have ac7 := Below.next (a := w) (by go_grown) hb
            have az7 := ac7.size
            have hrn := HN.out r (by first | rfl | trivial) hr
            have hr0 := (dist_lim hr).1
            clear hb hr
            go_wp2_with (go_at_call 15; refine (draw_turn _ _ _ (hA1.out.below (by go_grown)) hz1 hl1).mono ?_; rintro e wT ⟨u, v, hu, hv, rfl, hbT⟩; refine Hid.out ?_)
            refine Lib.hid ?_
            have acT := Below.next (a := w) (by go_grown) hbT
            have azT := acT.size
            have HST := Lib.hid (HS.out.below acT)
            clear hbT
            (try clear ac)
            obtain ⟨T, hT⟩ : ∃ T, turnR u v = T := ⟨_, rfl⟩
            have hTb := turn_bd u v
            rw [hT] at hTb
            have HT1 := Lib.hid hT
            have HT2 := Lib.hid ((turn_comm v u).trans hT)
            have HT3 := Lib.hid (turn_self u)
            obtain ⟨s, hs⟩ : ∃ s, sinR u = s := ⟨_, rfl⟩
            obtain ⟨c, hc⟩ : ∃ c, cosR u = c := ⟨_, rfl⟩
            have hq := unit_sq u
            rw [hs, hc] at hq
            have hsb := sin_bd u
            rw [hs] at hsb
            have hcb : -1000000 ≤ c ∧ c ≤ 1000000 := by rw [← hc, cos_eq]; exact sin_bd _
            have hs2 := sq_bd (a := s) (A := 1000000) hsb.1 hsb.2
            have hc2 := sq_bd (a := c) (A := 1000000) hcb.1 hcb.2
            have hs3 := sq_nn s
            have hc3 := sq_nn c
            have HSN := Lib.hid hs
            have HCN := Lib.hid hc
            obtain ⟨T0, T1⟩ := hTb
            obtain ⟨q0, q1⟩ := hq
            clear hT hs hc hsb hcb hu hv
            go_wp2_with (first
              | (go_at_call 12; refine (turn_any _ _ _).mono ?_; rintro e w9 ⟨rfl, hb⟩; (first | rw [HT1.out] | rw [HT2.out] | rw [HT3.out]); have ac := Below.next (a := wT) (by go_grown) hb; clear hb)
              | (go_at_call 16; refine (sine_any _ _ (HST.out.below (by go_grown))).mono ?_; rintro e w9 ⟨rfl, hb⟩; rw [HSN.out]; have ac := Below.next (a := wT) (by go_grown) hb; clear hb)
              | (go_at_call 17; refine (cosine_any _ _ (HST.out.below (by go_grown))).mono ?_; rintro e w9 ⟨rfl, hb⟩; rw [HCN.out]; have ac := Below.next (a := wT) (by go_grown) hb; clear hb))
            go_ret
            exact ⟨rfl, Below.next acT (by go_grown)⟩
          · have hE' : (E == 0) = false := by simp [hE]
            go_wp2_with (first
              | (go_at_call 14; refine (HM.out _ (HSd.out.below (by go_grown))).mono ?_; rintro e w6 ⟨rfl, hb⟩; have ac6 := Below.next acd hb; have az6 := ac6.size; clear hb)
              | (go_at_call 15; refine (draw_turn _ _ _ (hA1.out.below (by go_grown)) hz1 hl1).mono ?_; rintro e wT ⟨u, v, hu, hv, rfl, hbT⟩; refine Hid.out ?_))
            refine Lib.hid ?_
            have acT := Below.next (a := w) (by go_grown) hbT
            have azT := acT.size
            have HST := Lib.hid (HS.out.below acT)
            clear hbT
            (try clear ac)
            obtain ⟨T, hT⟩ : ∃ T, turnR u v = T := ⟨_, rfl⟩
            have hTb := turn_bd u v
            rw [hT] at hTb
            have HT1 := Lib.hid hT
            have HT2 := Lib.hid ((turn_comm v u).trans hT)
            have HT3 := Lib.hid (turn_self u)
            obtain ⟨s, hs⟩ : ∃ s, sinR u = s := ⟨_, rfl⟩
            obtain ⟨c, hc⟩ : ∃ c, cosR u = c := ⟨_, rfl⟩
            have hq := unit_sq u
            rw [hs, hc] at hq
            have hsb := sin_bd u
            rw [hs] at hsb
            have hcb : -1000000 ≤ c ∧ c ≤ 1000000 := by rw [← hc, cos_eq]; exact sin_bd _
            have hs2 := sq_bd (a := s) (A := 1000000) hsb.1 hsb.2
            have hc2 := sq_bd (a := c) (A := 1000000) hcb.1 hcb.2
            have hs3 := sq_nn s
            have hc3 := sq_nn c
            have HSN := Lib.hid hs
            have HCN := Lib.hid hc
            obtain ⟨T0, T1⟩ := hTb
            obtain ⟨q0, q1⟩ := hq
            clear hT hs hc hsb hcb hu hv
            go_wp2_with (first
              | (go_at_call 12; refine (turn_any _ _ _).mono ?_; rintro e w9 ⟨rfl, hb⟩; (first | rw [HT1.out] | rw [HT2.out] | rw [HT3.out]); have ac := Below.next (a := wT) (by go_grown) hb; clear hb)
              | (go_at_call 16; refine (sine_any _ _ (HST.out.below (by go_grown))).mono ?_; rintro e w9 ⟨rfl, hb⟩; rw [HSN.out]; have ac := Below.next (a := wT) (by go_grown) hb; clear hb)
              | (go_at_call 17; refine (cosine_any _ _ (HST.out.below (by go_grown))).mono ?_; rintro e w9 ⟨rfl, hb⟩; rw [HCN.out]; have ac := Below.next (a := wT) (by go_grown) hb; clear hb))
            go_ret
            exact ⟨rfl, Below.next acT (by go_grown)⟩
        · have q1 : (ax == bx) = true := by simp [hx1]
          have q2 : (ay == cy) = false := by simp [hy1]
          obtain ⟨T6, hT6⟩ : ∃ T, turnR x y = T := ⟨_, rfl⟩
          have hT7 := back_turn HOA.out HOB.out (.inr hy1) HX.out HY.out
          rw [hT6] at hT7
          have HT6 := Lib.hid hT6
          clear hT6 hx1 hy1
          go_wp2_with (first
            | (go_at_call 11; refine (svalid_any _ _ _).mono ?_; rintro e w9 ⟨rfl, hb⟩; have ac := Below.next (a := w) (by go_grown) hb; have az := ac.size; have lz : w1.heap.size + 1 < w9.heap.size := (by have := hb.size; (try simp at this); omega); have ca0 := cell_below (a := ⟨w1.heap.size, 0, none⟩) (v := .int .i64 ax) (by go_cell) hb; have ca1 := cell_below (a := ⟨w1.heap.size, 1, none⟩) (v := .int .i64 ay) (by go_cell) hb; have cb0 := cell_below (a := ⟨w1.heap.size + 1, 0, none⟩) (v := .int .i64 bx) (by go_cell) hb; have cb1 := cell_below (a := ⟨w1.heap.size + 1, 1, none⟩) (v := .int .i64 cy) (by go_cell) hb; clear hb)
            | (go_at_call 12; refine (turn_any _ _ _).mono ?_; rintro e w9 ⟨rfl, hb⟩; rw [HT6.out]; have ac := Below.next (a := w) (by go_grown) hb; have az := ac.size; have lz : w1.heap.size + 1 < w9.heap.size := (by have := hb.size; (try simp at this); omega); have ca0 := cell_below (a := ⟨w1.heap.size, 0, none⟩) (v := .int .i64 ax) (by go_cell) hb; have ca1 := cell_below (a := ⟨w1.heap.size, 1, none⟩) (v := .int .i64 ay) (by go_cell) hb; have cb0 := cell_below (a := ⟨w1.heap.size + 1, 0, none⟩) (v := .int .i64 bx) (by go_cell) hb; have cb1 := cell_below (a := ⟨w1.heap.size + 1, 1, none⟩) (v := .int .i64 cy) (by go_cell) hb; clear hb)
            | (go_at_call 13; refine (sdistance_any _ _ _ _ _).mono ?_; rintro e w5 ⟨d, hd, rfl, hb⟩; refine Hid.out ?_))
          refine Lib.hid ?_
          have acd := Below.next (a := w) (by go_grown) hb
          have azd := acd.size
          have lzd : w1.heap.size + 1 < w5.heap.size := by have := hb.size; (try simp at this); omega
          have da0 := cell_below (a := ⟨w1.heap.size, 0, none⟩) (v := .int .i64 ax) (by go_cell) hb
          have da1 := cell_below (a := ⟨w1.heap.size, 1, none⟩) (v := .int .i64 ay) (by go_cell) hb
          have db0 := cell_below (a := ⟨w1.heap.size + 1, 0, none⟩) (v := .int .i64 bx) (by go_cell) hb
          have db1 := cell_below (a := ⟨w1.heap.size + 1, 1, none⟩) (v := .int .i64 cy) (by go_cell) hb
          clear hb
          obtain ⟨d0, d1⟩ := dist_lim hd
          have HN := Lib.hid (fun r (hE : mvE ax ay x d = 0) hr => near_dist (r := r) HOA.out HOB.out HX.out hd hE hr)
          have HM := Lib.hid (fun w h => move_any ax ay x d w h)
          generalize mvPX ax ay x d = PX at *
          generalize mvPY ax ay x d = PY at *
          generalize mvE ax ay x d = E at *
          have HSd := Lib.hid (HS.out.below acd)
          clear hd
          by_cases hE : E = 0
          · subst hE
            go_wp2_with (go_at_call 14; refine (HM.out _ (HSd.out.below (by go_grown))).mono ?_; rintro e w6 ⟨rfl, hb⟩; refine Hid.out ?_)
            refine Lib.hid ?_
            have ac6 := Below.next acd hb
            have az6 := ac6.size
            have eb0 := cell_below db0 hb
            have eb1 := cell_below db1 hb
            have lz6 : w1.heap.size + 1 < w6.heap.size := by have := hb.size; omega
            clear hb da0 da1 db0 db1
            go_wp2_with (go_at_call 13; refine (sdistance_any _ _ _ _ _).mono ?_; rintro e w7 ⟨r, hr, rfl, hb⟩; refine Hid.out ?_)
            refine Lib.hid ?_
            have ac7 := Below.next (a := w) (by go_grown) hb
            have az7 := ac7.size
            have hrn := HN.out r (by first | rfl | trivial) hr
            have hr0 := (dist_lim hr).1
            clear hb hr
            go_wp2_with (go_at_call 15; refine (draw_turn _ _ _ (hA1.out.below (by go_grown)) hz1 hl1).mono ?_; rintro e wT ⟨u, v, hu, hv, rfl, hbT⟩; refine Hid.out ?_)
            refine Lib.hid ?_
            have acT := Below.next (a := w) (by go_grown) hbT
            have azT := acT.size
            have HST := Lib.hid (HS.out.below acT)
            clear hbT
            (try clear ac)
            obtain ⟨T, hT⟩ : ∃ T, turnR u v = T := ⟨_, rfl⟩
            have hTb := turn_bd u v
            rw [hT] at hTb
            have HT1 := Lib.hid hT
            have HT2 := Lib.hid ((turn_comm v u).trans hT)
            have HT3 := Lib.hid (turn_self u)
            obtain ⟨s, hs⟩ : ∃ s, sinR u = s := ⟨_, rfl⟩
            obtain ⟨c, hc⟩ : ∃ c, cosR u = c := ⟨_, rfl⟩
            have hq := unit_sq u
            rw [hs, hc] at hq
            have hsb := sin_bd u
            rw [hs] at hsb
            have hcb : -1000000 ≤ c ∧ c ≤ 1000000 := by rw [← hc, cos_eq]; exact sin_bd _
            have hs2 := sq_bd (a := s) (A := 1000000) hsb.1 hsb.2
            have hc2 := sq_bd (a := c) (A := 1000000) hcb.1 hcb.2
            have hs3 := sq_nn s
            have hc3 := sq_nn c
            have HSN := Lib.hid hs
            have HCN := Lib.hid hc
            obtain ⟨T0, T1⟩ := hTb
            obtain ⟨q0, q1⟩ := hq
            clear hT hs hc hsb hcb hu hv
            go_wp2_with (first
              | (go_at_call 12; refine (turn_any _ _ _).mono ?_; rintro e w9 ⟨rfl, hb⟩; (first | rw [HT1.out] | rw [HT2.out] | rw [HT3.out]); have ac := Below.next (a := wT) (by go_grown) hb; clear hb)
              | (go_at_call 16; refine (sine_any _ _ (HST.out.below (by go_grown))).mono ?_; rintro e w9 ⟨rfl, hb⟩; rw [HSN.out]; have ac := Below.next (a := wT) (by go_grown) hb; clear hb)
              | (go_at_call 17; refine (cosine_any _ _ (HST.out.below (by go_grown))).mono ?_; rintro e w9 ⟨rfl, hb⟩; rw [HCN.out]; have ac := Below.next (a := wT) (by go_grown) hb; clear hb))
            go_ret
            exact ⟨rfl, Below.next acT (by go_grown)⟩
          · have hE' : (E == 0) = false := by simp [hE]
            go_wp2_with (first
              | (go_at_call 14; refine (HM.out _ (HSd.out.below (by go_grown))).mono ?_; rintro e w6 ⟨rfl, hb⟩; have ac6 := Below.next acd hb; have az6 := ac6.size; clear hb)
              | (go_at_call 15; refine (draw_turn _ _ _ (hA1.out.below (by go_grown)) hz1 hl1).mono ?_; rintro e wT ⟨u, v, hu, hv, rfl, hbT⟩; refine Hid.out ?_))
            refine Lib.hid ?_
            have acT := Below.next (a := w) (by go_grown) hbT
            have azT := acT.size
            have HST := Lib.hid (HS.out.below acT)
            clear hbT
            (try clear ac)
            obtain ⟨T, hT⟩ : ∃ T, turnR u v = T := ⟨_, rfl⟩
            have hTb := turn_bd u v
            rw [hT] at hTb
            have HT1 := Lib.hid hT
            have HT2 := Lib.hid ((turn_comm v u).trans hT)
            have HT3 := Lib.hid (turn_self u)
            obtain ⟨s, hs⟩ : ∃ s, sinR u = s := ⟨_, rfl⟩
            obtain ⟨c, hc⟩ : ∃ c, cosR u = c := ⟨_, rfl⟩
            have hq := unit_sq u
            rw [hs, hc] at hq
            have hsb := sin_bd u
            rw [hs] at hsb
            have hcb : -1000000 ≤ c ∧ c ≤ 1000000 := by rw [← hc, cos_eq]; exact sin_bd _
            have hs2 := sq_bd (a := s) (A := 1000000) hsb.1 hsb.2
            have hc2 := sq_bd (a := c) (A := 1000000) hcb.1 hcb.2
            have hs3 := sq_nn s
            have hc3 := sq_nn c
            have HSN := Lib.hid hs
            have HCN := Lib.hid hc
            obtain ⟨T0, T1⟩ := hTb
            obtain ⟨q0, q1⟩ := hq
            clear hT hs hc hsb hcb hu hv
            go_wp2_with (first
              | (go_at_call 12; refine (turn_any _ _ _).mono ?_; rintro e w9 ⟨rfl, hb⟩; (first | rw [HT1.out] | rw [HT2.out] | rw [HT3.out]); have ac := Below.next (a := wT) (by go_grown) hb; clear hb)
              | (go_at_call 16; refine (sine_any _ _ (HST.out.below (by go_grown))).mono ?_; rintro e w9 ⟨rfl, hb⟩; rw [HSN.out]; have ac := Below.next (a := wT) (by go_grown) hb; clear hb)
              | (go_at_call 17; refine (cosine_any _ _ (HST.out.below (by go_grown))).mono ?_; rintro e w9 ⟨rfl, hb⟩; rw [HCN.out]; have ac := Below.next (a := wT) (by go_grown) hb; clear hb))
            go_ret
            exact ⟨rfl, Below.next acT (by go_grown)⟩
      · have q1 : (ax == bx) = false := by simp [hx1]
        obtain ⟨T6, hT6⟩ : ∃ T, turnR x y = T := ⟨_, rfl⟩
        have hT7 := back_turn HOA.out HOB.out (.inl hx1) HX.out HY.out
        rw [hT6] at hT7
        have HT6 := Lib.hid hT6
        clear hT6 hx1
        go_wp2_with (first
          | (go_at_call 11; refine (svalid_any _ _ _).mono ?_; rintro e w9 ⟨rfl, hb⟩; have ac := Below.next (a := w) (by go_grown) hb; have az := ac.size; have lz : w1.heap.size + 1 < w9.heap.size := (by have := hb.size; (try simp at this); omega); have ca0 := cell_below (a := ⟨w1.heap.size, 0, none⟩) (v := .int .i64 ax) (by go_cell) hb; have ca1 := cell_below (a := ⟨w1.heap.size, 1, none⟩) (v := .int .i64 ay) (by go_cell) hb; have cb0 := cell_below (a := ⟨w1.heap.size + 1, 0, none⟩) (v := .int .i64 bx) (by go_cell) hb; have cb1 := cell_below (a := ⟨w1.heap.size + 1, 1, none⟩) (v := .int .i64 cy) (by go_cell) hb; clear hb)
          | (go_at_call 12; refine (turn_any _ _ _).mono ?_; rintro e w9 ⟨rfl, hb⟩; rw [HT6.out]; have ac := Below.next (a := w) (by go_grown) hb; have az := ac.size; have lz : w1.heap.size + 1 < w9.heap.size := (by have := hb.size; (try simp at this); omega); have ca0 := cell_below (a := ⟨w1.heap.size, 0, none⟩) (v := .int .i64 ax) (by go_cell) hb; have ca1 := cell_below (a := ⟨w1.heap.size, 1, none⟩) (v := .int .i64 ay) (by go_cell) hb; have cb0 := cell_below (a := ⟨w1.heap.size + 1, 0, none⟩) (v := .int .i64 bx) (by go_cell) hb; have cb1 := cell_below (a := ⟨w1.heap.size + 1, 1, none⟩) (v := .int .i64 cy) (by go_cell) hb; clear hb)
          | (go_at_call 13; refine (sdistance_any _ _ _ _ _).mono ?_; rintro e w5 ⟨d, hd, rfl, hb⟩; refine Hid.out ?_))
        refine Lib.hid ?_
        have acd := Below.next (a := w) (by go_grown) hb
        have azd := acd.size
        have lzd : w1.heap.size + 1 < w5.heap.size := by have := hb.size; (try simp at this); omega
        have da0 := cell_below (a := ⟨w1.heap.size, 0, none⟩) (v := .int .i64 ax) (by go_cell) hb
        have da1 := cell_below (a := ⟨w1.heap.size, 1, none⟩) (v := .int .i64 ay) (by go_cell) hb
        have db0 := cell_below (a := ⟨w1.heap.size + 1, 0, none⟩) (v := .int .i64 bx) (by go_cell) hb
        have db1 := cell_below (a := ⟨w1.heap.size + 1, 1, none⟩) (v := .int .i64 cy) (by go_cell) hb
        clear hb
        obtain ⟨d0, d1⟩ := dist_lim hd
        have HN := Lib.hid (fun r (hE : mvE ax ay x d = 0) hr => near_dist (r := r) HOA.out HOB.out HX.out hd hE hr)
        have HM := Lib.hid (fun w h => move_any ax ay x d w h)
        generalize mvPX ax ay x d = PX at *
        generalize mvPY ax ay x d = PY at *
        generalize mvE ax ay x d = E at *
        have HSd := Lib.hid (HS.out.below acd)
        clear hd
        by_cases hE : E = 0
        · subst hE
          go_wp2_with (go_at_call 14; refine (HM.out _ (HSd.out.below (by go_grown))).mono ?_; rintro e w6 ⟨rfl, hb⟩; refine Hid.out ?_)
          refine Lib.hid ?_
          have ac6 := Below.next acd hb
          have az6 := ac6.size
          have eb0 := cell_below db0 hb
          have eb1 := cell_below db1 hb
          have lz6 : w1.heap.size + 1 < w6.heap.size := by have := hb.size; omega
          clear hb da0 da1 db0 db1
          go_wp2_with (go_at_call 13; refine (sdistance_any _ _ _ _ _).mono ?_; rintro e w7 ⟨r, hr, rfl, hb⟩; refine Hid.out ?_)
          refine Lib.hid ?_
          have ac7 := Below.next (a := w) (by go_grown) hb
          have az7 := ac7.size
          have hrn := HN.out r (by first | rfl | trivial) hr
          have hr0 := (dist_lim hr).1
          clear hb hr
          go_wp2_with (go_at_call 15; refine (draw_turn _ _ _ (hA1.out.below (by go_grown)) hz1 hl1).mono ?_; rintro e wT ⟨u, v, hu, hv, rfl, hbT⟩; refine Hid.out ?_)
          refine Lib.hid ?_
          have acT := Below.next (a := w) (by go_grown) hbT
          have azT := acT.size
          have HST := Lib.hid (HS.out.below acT)
          clear hbT
          (try clear ac)
          obtain ⟨T, hT⟩ : ∃ T, turnR u v = T := ⟨_, rfl⟩
          have hTb := turn_bd u v
          rw [hT] at hTb
          have HT1 := Lib.hid hT
          have HT2 := Lib.hid ((turn_comm v u).trans hT)
          have HT3 := Lib.hid (turn_self u)
          obtain ⟨s, hs⟩ : ∃ s, sinR u = s := ⟨_, rfl⟩
          obtain ⟨c, hc⟩ : ∃ c, cosR u = c := ⟨_, rfl⟩
          have hq := unit_sq u
          rw [hs, hc] at hq
          have hsb := sin_bd u
          rw [hs] at hsb
          have hcb : -1000000 ≤ c ∧ c ≤ 1000000 := by rw [← hc, cos_eq]; exact sin_bd _
          have hs2 := sq_bd (a := s) (A := 1000000) hsb.1 hsb.2
          have hc2 := sq_bd (a := c) (A := 1000000) hcb.1 hcb.2
          have hs3 := sq_nn s
          have hc3 := sq_nn c
          have HSN := Lib.hid hs
          have HCN := Lib.hid hc
          obtain ⟨T0, T1⟩ := hTb
          obtain ⟨q0, q1⟩ := hq
          clear hT hs hc hsb hcb hu hv
          go_wp2_with (first
            | (go_at_call 12; refine (turn_any _ _ _).mono ?_; rintro e w9 ⟨rfl, hb⟩; (first | rw [HT1.out] | rw [HT2.out] | rw [HT3.out]); have ac := Below.next (a := wT) (by go_grown) hb; clear hb)
            | (go_at_call 16; refine (sine_any _ _ (HST.out.below (by go_grown))).mono ?_; rintro e w9 ⟨rfl, hb⟩; rw [HSN.out]; have ac := Below.next (a := wT) (by go_grown) hb; clear hb)
            | (go_at_call 17; refine (cosine_any _ _ (HST.out.below (by go_grown))).mono ?_; rintro e w9 ⟨rfl, hb⟩; rw [HCN.out]; have ac := Below.next (a := wT) (by go_grown) hb; clear hb))
          go_ret
          exact ⟨rfl, Below.next acT (by go_grown)⟩
        · have hE' : (E == 0) = false := by simp [hE]
          go_wp2_with (first
            | (go_at_call 14; refine (HM.out _ (HSd.out.below (by go_grown))).mono ?_; rintro e w6 ⟨rfl, hb⟩; have ac6 := Below.next acd hb; have az6 := ac6.size; clear hb)
            | (go_at_call 15; refine (draw_turn _ _ _ (hA1.out.below (by go_grown)) hz1 hl1).mono ?_; rintro e wT ⟨u, v, hu, hv, rfl, hbT⟩; refine Hid.out ?_))
          refine Lib.hid ?_
          have acT := Below.next (a := w) (by go_grown) hbT
          have azT := acT.size
          have HST := Lib.hid (HS.out.below acT)
          clear hbT
          (try clear ac)
          obtain ⟨T, hT⟩ : ∃ T, turnR u v = T := ⟨_, rfl⟩
          have hTb := turn_bd u v
          rw [hT] at hTb
          have HT1 := Lib.hid hT
          have HT2 := Lib.hid ((turn_comm v u).trans hT)
          have HT3 := Lib.hid (turn_self u)
          obtain ⟨s, hs⟩ : ∃ s, sinR u = s := ⟨_, rfl⟩
          obtain ⟨c, hc⟩ : ∃ c, cosR u = c := ⟨_, rfl⟩
          have hq := unit_sq u
          rw [hs, hc] at hq
          have hsb := sin_bd u
          rw [hs] at hsb
          have hcb : -1000000 ≤ c ∧ c ≤ 1000000 := by rw [← hc, cos_eq]; exact sin_bd _
          have hs2 := sq_bd (a := s) (A := 1000000) hsb.1 hsb.2
          have hc2 := sq_bd (a := c) (A := 1000000) hcb.1 hcb.2
          have hs3 := sq_nn s
          have hc3 := sq_nn c
          have HSN := Lib.hid hs
          have HCN := Lib.hid hc
          obtain ⟨T0, T1⟩ := hTb
          obtain ⟨q0, q1⟩ := hq
          clear hT hs hc hsb hcb hu hv
          go_wp2_with (first
            | (go_at_call 12; refine (turn_any _ _ _).mono ?_; rintro e w9 ⟨rfl, hb⟩; (first | rw [HT1.out] | rw [HT2.out] | rw [HT3.out]); have ac := Below.next (a := wT) (by go_grown) hb; clear hb)
            | (go_at_call 16; refine (sine_any _ _ (HST.out.below (by go_grown))).mono ?_; rintro e w9 ⟨rfl, hb⟩; rw [HSN.out]; have ac := Below.next (a := wT) (by go_grown) hb; clear hb)
            | (go_at_call 17; refine (cosine_any _ _ (HST.out.below (by go_grown))).mono ?_; rintro e w9 ⟨rfl, hb⟩; rw [HCN.out]; have ac := Below.next (a := wT) (by go_grown) hb; clear hb))
          go_ret
          exact ⟨rfl, Below.next acT (by go_grown)⟩
    · have hb'' : inB 0 200000 [bx, cy] = false := by simpa using hb'
      clear hb'
      go_wp2_with (first
        | (go_at_call 11; refine (svalid_any _ _ _).mono ?_; rintro e w9 ⟨rfl, hb⟩; have ac := Below.next (a := w) (by go_grown) hb; have az := ac.size; have lz : w1.heap.size + 1 < w9.heap.size := (by have := hb.size; (try simp at this); omega); have ca0 := cell_below (a := ⟨w1.heap.size, 0, none⟩) (v := .int .i64 ax) (by go_cell) hb; have ca1 := cell_below (a := ⟨w1.heap.size, 1, none⟩) (v := .int .i64 ay) (by go_cell) hb; have cb0 := cell_below (a := ⟨w1.heap.size + 1, 0, none⟩) (v := .int .i64 bx) (by go_cell) hb; have cb1 := cell_below (a := ⟨w1.heap.size + 1, 1, none⟩) (v := .int .i64 cy) (by go_cell) hb; clear hb)
        | (go_at_call 15; refine (draw_turn _ _ _ (hA1.out.below (by go_grown)) hz1 hl1).mono ?_; rintro e wT ⟨u, v, hu, hv, rfl, hbT⟩; refine Hid.out ?_))
      refine Lib.hid ?_
      have acT := Below.next (a := w) (by go_grown) hbT
      have azT := acT.size
      have HST := Lib.hid (HS.out.below acT)
      clear hbT
      (try clear ac)
      obtain ⟨T, hT⟩ : ∃ T, turnR u v = T := ⟨_, rfl⟩
      have hTb := turn_bd u v
      rw [hT] at hTb
      have HT1 := Lib.hid hT
      have HT2 := Lib.hid ((turn_comm v u).trans hT)
      have HT3 := Lib.hid (turn_self u)
      obtain ⟨s, hs⟩ : ∃ s, sinR u = s := ⟨_, rfl⟩
      obtain ⟨c, hc⟩ : ∃ c, cosR u = c := ⟨_, rfl⟩
      have hq := unit_sq u
      rw [hs, hc] at hq
      have hsb := sin_bd u
      rw [hs] at hsb
      have hcb : -1000000 ≤ c ∧ c ≤ 1000000 := by rw [← hc, cos_eq]; exact sin_bd _
      have hs2 := sq_bd (a := s) (A := 1000000) hsb.1 hsb.2
      have hc2 := sq_bd (a := c) (A := 1000000) hcb.1 hcb.2
      have hs3 := sq_nn s
      have hc3 := sq_nn c
      have HSN := Lib.hid hs
      have HCN := Lib.hid hc
      obtain ⟨T0, T1⟩ := hTb
      obtain ⟨q0, q1⟩ := hq
      clear hT hs hc hsb hcb hu hv
      go_wp2_with (first
        | (go_at_call 12; refine (turn_any _ _ _).mono ?_; rintro e w9 ⟨rfl, hb⟩; (first | rw [HT1.out] | rw [HT2.out] | rw [HT3.out]); have ac := Below.next (a := wT) (by go_grown) hb; clear hb)
        | (go_at_call 16; refine (sine_any _ _ (HST.out.below (by go_grown))).mono ?_; rintro e w9 ⟨rfl, hb⟩; rw [HSN.out]; have ac := Below.next (a := wT) (by go_grown) hb; clear hb)
        | (go_at_call 17; refine (cosine_any _ _ (HST.out.below (by go_grown))).mono ?_; rintro e w9 ⟨rfl, hb⟩; rw [HCN.out]; have ac := Below.next (a := wT) (by go_grown) hb; clear hb))
      go_ret
      exact ⟨rfl, Below.next acT (by go_grown)⟩
  · have ha' : inB 0 200000 [ax, ay] = false := by simpa using ha
    clear ha
    go_wp2_with (first
      | (go_at_call 11; refine (svalid_any _ _ _).mono ?_; rintro e w9 ⟨rfl, hb⟩; have ac := Below.next (a := w) (by go_grown) hb; have az := ac.size; have lz : w1.heap.size + 1 < w9.heap.size := (by have := hb.size; (try simp at this); omega); have ca0 := cell_below (a := ⟨w1.heap.size, 0, none⟩) (v := .int .i64 ax) (by go_cell) hb; have ca1 := cell_below (a := ⟨w1.heap.size, 1, none⟩) (v := .int .i64 ay) (by go_cell) hb; have cb0 := cell_below (a := ⟨w1.heap.size + 1, 0, none⟩) (v := .int .i64 bx) (by go_cell) hb; have cb1 := cell_below (a := ⟨w1.heap.size + 1, 1, none⟩) (v := .int .i64 cy) (by go_cell) hb; clear hb)
      | (go_at_call 15; refine (draw_turn _ _ _ (hA1.out.below (by go_grown)) hz1 hl1).mono ?_; rintro e wT ⟨u, v, hu, hv, rfl, hbT⟩; refine Hid.out ?_))
    refine Lib.hid ?_
    have acT := Below.next (a := w) (by go_grown) hbT
    have azT := acT.size
    have HST := Lib.hid (HS.out.below acT)
    clear hbT
    (try clear ac)
    obtain ⟨T, hT⟩ : ∃ T, turnR u v = T := ⟨_, rfl⟩
    have hTb := turn_bd u v
    rw [hT] at hTb
    have HT1 := Lib.hid hT
    have HT2 := Lib.hid ((turn_comm v u).trans hT)
    have HT3 := Lib.hid (turn_self u)
    obtain ⟨s, hs⟩ : ∃ s, sinR u = s := ⟨_, rfl⟩
    obtain ⟨c, hc⟩ : ∃ c, cosR u = c := ⟨_, rfl⟩
    have hq := unit_sq u
    rw [hs, hc] at hq
    have hsb := sin_bd u
    rw [hs] at hsb
    have hcb : -1000000 ≤ c ∧ c ≤ 1000000 := by rw [← hc, cos_eq]; exact sin_bd _
    have hs2 := sq_bd (a := s) (A := 1000000) hsb.1 hsb.2
    have hc2 := sq_bd (a := c) (A := 1000000) hcb.1 hcb.2
    have hs3 := sq_nn s
    have hc3 := sq_nn c
    have HSN := Lib.hid hs
    have HCN := Lib.hid hc
    obtain ⟨T0, T1⟩ := hTb
    obtain ⟨q0, q1⟩ := hq
    clear hT hs hc hsb hcb hu hv
    go_wp2_with (first
      | (go_at_call 12; refine (turn_any _ _ _).mono ?_; rintro e w9 ⟨rfl, hb⟩; (first | rw [HT1.out] | rw [HT2.out] | rw [HT3.out]); have ac := Below.next (a := wT) (by go_grown) hb; clear hb)
      | (go_at_call 16; refine (sine_any _ _ (HST.out.below (by go_grown))).mono ?_; rintro e w9 ⟨rfl, hb⟩; rw [HSN.out]; have ac := Below.next (a := wT) (by go_grown) hb; clear hb)
      | (go_at_call 17; refine (cosine_any _ _ (HST.out.below (by go_grown))).mono ?_; rintro e w9 ⟨rfl, hb⟩; rw [HCN.out]; have ac := Below.next (a := wT) (by go_grown) hb; clear hb))
    go_ret
    exact ⟨rfl, Below.next acT (by go_grown)⟩

theorem bearings_law (a0 : Option Addr) (len0 cap0 : Nat) (a1 : Option Addr) (len1 cap1 : Nat) (z0 z1 : List Int) (w : World)
    (h0 : ArgIn .u8 w (.slice a0 len0 cap0) z0) (e0 : z0.length = len0) (b0 : BytesAre z0) (h1 : ArgIn .u8 w (.slice a1 len1 cap1) z1) (e1 : z1.length = len1) (b1 : BytesAre z1)
    (hL : laidMetH Tryd.prog Rows.fnBearingsRow.laid w) :
    Calls Tryd.prog 3 #[.slice a0 len0 cap0, .slice a1 len1 cap1] w fun e w' => e = .returned (.bool true) ∧ Below w.heap.size w w' := by
  have hS := sines_of hL
  clear hL
  have H0 := fun w => long_is a0 len0 cap0 w
  have H1 := fun w => long_is a1 len1 cap1 w
  by_cases k0 : (1048576 : Int) < (len0 : Int)
  · simp only [decide_eq_true k0] at H0
    have HL0 := Lib.hid H0
    clear H0 H1 h0 h1 hS
    go_enter Tryd.func3, Tryd.ntmps3
    go_wp2_with (go_at_call 8; refine (HL0.out _).mono ?_; rintro e w' ⟨rfl, rfl⟩)
    go_ret
    exact ⟨rfl, Below.refl _ _⟩
  · simp only [decide_eq_false k0] at H0
    by_cases k1 : (1048576 : Int) < (len1 : Int)
    · simp only [decide_eq_true k1] at H1
      have HL0 := Lib.hid H0
      have HL1 := Lib.hid H1
      clear H0 H1 h0 h1 hS
      generalize Value.slice a0 len0 cap0 = sv0 at *
      generalize Value.slice a1 len1 cap1 = sv1 at *
      go_enter Tryd.func3, Tryd.ntmps3
      go_wp2_with (go_at_call 8; (first | refine (HL0.out _).mono ?_ | refine (HL1.out _).mono ?_); rintro e w' ⟨rfl, rfl⟩)
      go_ret
      exact ⟨rfl, Below.refl _ _⟩
    · simp only [decide_eq_false k1] at H1
      exact bearings_small _ _ z0 z1 w h0 h1 b0 b1 (by omega) (by omega) (Lib.hid H0) (Lib.hid H1) hS
end Go.Proofs.YtochniaofmeheaaDoor
