/- Moves, of the program. -/
import Derived.Test.YthccbipjmheoaaaDoorMvA
import Derived.Deep.CutRange
namespace Go.Proofs.YthccbipjmheoaaaDoor
open Go.ChangeShapes Go.WideShapes Go.ChangeAt Go.RowKit Pm

theorem divround_b (a b : Int) (w : World) (a0 : -1000000000000 ≤ a) (a1 : a ≤ 1000000000000) (b0 : 0 < b) (b1 : b ≤ 1000000000000) :
    Calls Tryd.prog 44 #[.int .i64 a, .int .i64 b] w fun e w' => e = .returned (.int .i64 (dvr a b)) ∧ Below w.heap.size w w' := by
  have h : divR a b = dvr a b := by unfold divR; rw [if_neg (by simp [inB]; omega)]
  rw [← h]
  exact divround_any a b w

theorem move_no (px py be d : Int) (w : World) (h : inB 0 200000 [px, py] = false ∨ inB 0 300000 [d] = false) :
    Calls Tryd.prog 28 #[.agg #[.int .i64 px, .int .i64 py], .int .i64 be, .int .i64 d] w fun e w' => e = .returned (.tuple #[.agg #[.int .i64 (mvPX px py be d), .int .i64 (mvPY px py be d)], .int .i64 (mvE px py be d)]) ∧ Below w.heap.size w w' := by
  cases h1 : inB 0 200000 [px, py]
  · have HE := Lib.hid (mvE1 (be := be) (d := d) h1)
    obtain ⟨hx, hy⟩ := mvP_no (px := px) (py := py) (be := be) (d := d) (by rw [HE.out]; decide)
    have HX := Lib.hid hx
    have HY := Lib.hid hy
    clear hx hy h
    go_enter Tryd.func28, Tryd.ntmps28
    go_wp2_with (first
      | (go_at_call 22; refine (ok_any _ _ _).mono ?_; rintro e w1 ⟨rfl, hb⟩; have ac := Below.next (a := w) (by go_grown) hb; have c0 := cell_below (a := ⟨w.heap.size, 0, none⟩) (v := .int .i64 px) (by go_cell) hb; have c1 := cell_below (a := ⟨w.heap.size, 1, none⟩) (v := .int .i64 py) (by go_cell) hb; have c2 := cell_below (a := ⟨w.heap.size + 1, 0, none⟩) (v := .int .i64 0) (by go_cell) hb; have c3 := cell_below (a := ⟨w.heap.size + 1, 1, none⟩) (v := .int .i64 0) (by go_cell) hb; have hz00 : w.heap.size < w1.heap.size := (by have := hb.size; (try simp at this); omega); have hz01 : w.heap.size < w1.heap.size + 1 := (by have := hb.size; (try simp at this); omega); have hz02 : w.heap.size < w1.heap.size + 1 + 1 := (by have := hb.size; (try simp at this); omega); have hz10 : w.heap.size + 1 < w1.heap.size := (by have := hb.size; (try simp at this); omega); have hz11 : w.heap.size + 1 < w1.heap.size + 1 := (by have := hb.size; (try simp at this); omega); have hz12 : w.heap.size + 1 < w1.heap.size + 1 + 1 := (by have := hb.size; (try simp at this); omega); have f10 := frozen_below (a := ⟨w.heap.size + 1, 0, none⟩) (by go_simp) (by first | omega | (simp; done) | (simp; omega)) hb; have f11 := frozen_below (a := ⟨w.heap.size + 1, 1, none⟩) (by go_simp) (by first | omega | (simp; done) | (simp; omega)) hb; clear hb))
    refine bodyPost_ret (v := .tuple #[.agg #[.int .i64 0, .int .i64 0], .int .i64 1]) (by simp [results, Tryd.results28, go_sem, *]) rfl ⟨ret_m HX.out.symm HY.out.symm HE.out.symm, by go_grown⟩
  · have h2 : inB 0 300000 [d] = false := by
      rcases h with h | h
      · rw [h1] at h; cases h
      · exact h
    have HE := Lib.hid (mvE2 (be := be) h1 h2)
    obtain ⟨hx, hy⟩ := mvP_no (px := px) (py := py) (be := be) (d := d) (by rw [HE.out]; decide)
    have HX := Lib.hid hx
    have HY := Lib.hid hy
    clear hx hy h
    go_enter Tryd.func28, Tryd.ntmps28
    go_wp2_with (first
      | (go_at_call 22; refine (ok_any _ _ _).mono ?_; rintro e w1 ⟨rfl, hb⟩; have ac := Below.next (a := w) (by go_grown) hb; have c0 := cell_below (a := ⟨w.heap.size, 0, none⟩) (v := .int .i64 px) (by go_cell) hb; have c1 := cell_below (a := ⟨w.heap.size, 1, none⟩) (v := .int .i64 py) (by go_cell) hb; have c2 := cell_below (a := ⟨w.heap.size + 1, 0, none⟩) (v := .int .i64 0) (by go_cell) hb; have c3 := cell_below (a := ⟨w.heap.size + 1, 1, none⟩) (v := .int .i64 0) (by go_cell) hb; have hz00 : w.heap.size < w1.heap.size := (by have := hb.size; (try simp at this); omega); have hz01 : w.heap.size < w1.heap.size + 1 := (by have := hb.size; (try simp at this); omega); have hz02 : w.heap.size < w1.heap.size + 1 + 1 := (by have := hb.size; (try simp at this); omega); have hz10 : w.heap.size + 1 < w1.heap.size := (by have := hb.size; (try simp at this); omega); have hz11 : w.heap.size + 1 < w1.heap.size + 1 := (by have := hb.size; (try simp at this); omega); have hz12 : w.heap.size + 1 < w1.heap.size + 1 + 1 := (by have := hb.size; (try simp at this); omega); have f10 := frozen_below (a := ⟨w.heap.size + 1, 0, none⟩) (by go_simp) (by first | omega | (simp; done) | (simp; omega)) hb; have f11 := frozen_below (a := ⟨w.heap.size + 1, 1, none⟩) (by go_simp) (by first | omega | (simp; done) | (simp; omega)) hb; clear hb)
      | (go_at_call 38; refine (within_any _ _ _ _ _ (ints_one_at _ _ _ (by simp))).mono ?_; rintro e w1 ⟨rfl, rfl⟩))
    refine bodyPost_ret (v := .tuple #[.agg #[.int .i64 0, .int .i64 0], .int .i64 2]) (by simp [results, Tryd.results28, go_sem, *]) rfl ⟨ret_m HX.out.symm HY.out.symm HE.out.symm, by go_grown⟩

set_option maxHeartbeats 4000000 in
theorem move_out (px py be d X Y : Int) (w : World) (hS : SinesAt w) (h1 : inB 0 200000 [px, py] = true) (h2 : inB 0 300000 [d] = true) (h3 : inB 0 200000 [X, Y] = false)
    (eX : px + dvr (d * sinR be) 1000000 = X) (eY : py + dvr (d * cosR be) 1000000 = Y) :
    Calls Tryd.prog 28 #[.agg #[.int .i64 px, .int .i64 py], .int .i64 be, .int .i64 d] w fun e w' => e = .returned (.tuple #[.agg #[.int .i64 (mvPX px py be d), .int .i64 (mvPY px py be d)], .int .i64 (mvE px py be d)]) ∧ Below w.heap.size w w' := by
  have HS := Lib.hid hS
  have HE := Lib.hid (show mvE px py be d = 6 from mvE6 h1 h2 (by unfold mvX mvY; rw [eX, eY]; exact h3))
  have hXY : mvPX px py be d = 0 ∧ mvPY px py be d = 0 := by
    exact mvP_no (by rw [HE.out]; decide)
  have HX := Lib.hid hXY.1
  have HY := Lib.hid hXY.2
  obtain ⟨p0, p1, p2, p3⟩ := vd_of h1
  have hd : 0 ≤ d ∧ d ≤ 300000 := by simpa [inB] using h2
  obtain ⟨⟨x0, x1⟩, x2, x3⟩ := mv_bd p0 p1 hd.1 hd.2 (sinR be) (sin_bd be).1 (sin_bd be).2
  have hc := sin_bd (be + 90)
  rw [← cos_eq] at hc
  obtain ⟨⟨y0, y1⟩, y2, y3⟩ := mv_bd p2 p3 hd.1 hd.2 (cosR be) hc.1 hc.2
  have wr1 : IntKind.i64.wrap (d * sinR be) = d * sinR be := IntWalk.i64_in _ ⟨by omega, by omega⟩
  have wr2 : IntKind.i64.wrap (d * cosR be) = d * cosR be := IntWalk.i64_in _ ⟨by omega, by omega⟩
  have wr3 : IntKind.i64.wrap (px + dvr (d * sinR be) 1000000) = X := by rw [IntWalk.i64_in _ ⟨by omega, by omega⟩, eX]
  have wr4 : IntKind.i64.wrap (py + dvr (d * cosR be) 1000000) = Y := by rw [IntWalk.i64_in _ ⟨by omega, by omega⟩, eY]
  clear hS hXY hd hc p0 p1 p2 p3 x2 x3 y2 y3 eX eY
  go_enter Tryd.func28, Tryd.ntmps28
  go_wp2_with (first
    | (go_at_call 22; refine (ok_any _ _ _).mono ?_; rintro e w1 ⟨rfl, hb⟩; have ac := Below.next (a := w) (by go_grown) hb; have c0 := cell_below (a := ⟨w.heap.size, 0, none⟩) (v := .int .i64 px) (by go_cell) hb; have c1 := cell_below (a := ⟨w.heap.size, 1, none⟩) (v := .int .i64 py) (by go_cell) hb; have c2 := cell_below (a := ⟨w.heap.size + 1, 0, none⟩) (v := .int .i64 0) (by go_cell) hb; have c3 := cell_below (a := ⟨w.heap.size + 1, 1, none⟩) (v := .int .i64 0) (by go_cell) hb; have hz00 : w.heap.size < w1.heap.size := (by have := hb.size; (try simp at this); omega); have hz01 : w.heap.size < w1.heap.size + 1 := (by have := hb.size; (try simp at this); omega); have hz02 : w.heap.size < w1.heap.size + 1 + 1 := (by have := hb.size; (try simp at this); omega); have hz10 : w.heap.size + 1 < w1.heap.size := (by have := hb.size; (try simp at this); omega); have hz11 : w.heap.size + 1 < w1.heap.size + 1 := (by have := hb.size; (try simp at this); omega); have hz12 : w.heap.size + 1 < w1.heap.size + 1 + 1 := (by have := hb.size; (try simp at this); omega); have f10 := frozen_below (a := ⟨w.heap.size + 1, 0, none⟩) (by go_simp) (by first | omega | (simp; done) | (simp; omega)) hb; have f11 := frozen_below (a := ⟨w.heap.size + 1, 1, none⟩) (by go_simp) (by first | omega | (simp; done) | (simp; omega)) hb; clear hb)
    | (go_at_call 38; refine (within_any _ _ _ _ _ (ints_one_at _ _ _ (by simp))).mono ?_; rintro e w2 ⟨rfl, hw⟩; refine Hid.out ?_))
  refine Lib.hid ?_
  have hb2 : Below w1.heap.size w1 w2 := by rw [← hw]; go_grown
  have ac2 := Below.next ac hb2
  have HS2 := Lib.hid (HS.out.below ac2)
  have d0 := cell_below c0 hb2
  have d1 := cell_below c1 hb2
  have d2 := cell_below c2 hb2
  have d3 := cell_below c3 hb2
  have g0 := frozen_below f10 hz10 hb2
  have g1 := frozen_below f11 hz10 hb2
  have s0 : w.heap.size + 1 < w2.heap.size := by have := hb2.size; omega
  clear hb2 hw c0 c1 c2 c3 f10 f11 hz00 hz01 hz02 hz10 hz11 hz12
  go_wp2_with (fail)
  go_cut [8] from 18 to 34 (fun p wx => ∃ b : Nat, p = .pointer (some ⟨b, 0, none⟩) ∧ (wx.cell? ⟨b, 0, none⟩ = some (.int .i64 X) ∧ wx.cell? ⟨b, 1, none⟩ = some (.int .i64 Y)) ∧ Below w2.heap.size w2 wx ∧ b < wx.heap.size)
  case first =>
    go_region_held3 (fun w' => w'.cell? ⟨w.heap.size, 0, none⟩ = some (.int .i64 px) ∧ w'.cell? ⟨w.heap.size, 1, none⟩ = some (.int .i64 py) ∧ Below w2.heap.size w2 w')
      (first | assumption | exact keep2 (by assumption) (by assumption) | exact drew2 (by assumption) | exact keepA2 (by assumption) | exact drew2 (keepA2 (by assumption)) | ((refine keepP2 ?_ ?_ ?_ (by assumption)) <;> (first | omega | (simp; done) | (simp; omega))) | ((refine keepX2 ?_ ?_ ?_ (by assumption)) <;> (first | omega | (simp; done) | (simp; omega))) | ((refine drew2 (keepX2 ?_ ?_ ?_ (by assumption))) <;> (first | omega | (simp; done) | (simp; omega))) | (refine ⟨?_, ?_, ?_⟩ <;> (first | (go_cell; done) | (go_grown; done))))
      (first
        | (go_at_call 45; refine (sine_any _ _ (SinesAt.below HS2.out (keepB2 (by assumption)))).mono ?_; rintro e w1 ⟨rfl, hb⟩; have sz := hb.size; (try simp at sz); (first | (have hq := new2 hb; obtain ⟨q0, q1, q2, q3, q4⟩ := hq) | (have hq := new2d hb; obtain ⟨q0, q1, q2, q3, q4⟩ := hq) | (have hq := carry2 hb q0 q1 q2 q3 q4; obtain ⟨q0, q1, q2, q3, q4⟩ := hq) | skip); (try simp only [World.size_alloc] at q0 q1 q2 q3 q4))
        | (go_at_call 46; refine (cosine_any _ _ (SinesAt.below HS2.out (keepB2 (by assumption)))).mono ?_; rintro e w1 ⟨rfl, hb⟩; have sz := hb.size; (try simp at sz); (first | (have hq := new2 hb; obtain ⟨q0, q1, q2, q3, q4⟩ := hq) | (have hq := new2d hb; obtain ⟨q0, q1, q2, q3, q4⟩ := hq) | (have hq := carry2 hb q0 q1 q2 q3 q4; obtain ⟨q0, q1, q2, q3, q4⟩ := hq) | skip); (try simp only [World.size_alloc] at q0 q1 q2 q3 q4))
        | (go_at_call 44; refine (divround_b _ _ _ (by omega) (by omega) (by omega) (by omega)).mono ?_; rintro e w1 ⟨rfl, hb⟩; have sz := hb.size; (try simp at sz); (first | (have hq := new2 hb; obtain ⟨q0, q1, q2, q3, q4⟩ := hq) | (have hq := new2d hb; obtain ⟨q0, q1, q2, q3, q4⟩ := hq) | (have hq := carry2 hb q0 q1 q2 q3 q4; obtain ⟨q0, q1, q2, q3, q4⟩ := hq) | skip); (try simp only [World.size_alloc] at q0 q1 q2 q3 q4)))
    all_goals
      go_wp2_with (fail)
      go_meet
      refine ⟨_, rfl, ⟨?_, ?_⟩, keepB2 (by assumption), ?_⟩ <;> (first | omega | (go_cell; done) | (simp; done) | (simp; omega))
  case rest =>
    obtain ⟨b, rfl, ⟨k0, k1⟩, hB, hb1⟩ := hcut
    have ac3 := Below.next ac2 hB
    have t0 := cell_below d2 hB
    have t1 := cell_below d3 hB
    have t2 := frozen_below g0 s0 hB
    have t3 := frozen_below g1 s0 hB
    have s1 : w.heap.size + 1 < wc.heap.size := by have := hB.size; omega
    clear d0 d1 d2 d3 g0 g1 hB
    go_wp2_with (go_at_call 22; refine (ok_any _ _ _).mono ?_; rintro e w3 ⟨rfl, hb⟩; have ac4 := Below.next ac3 hb; have k2 := cell_below k0 hb; have k3 := cell_below k1 hb; have u0 := cell_below t0 hb; have u1 := cell_below t1 hb; have u2 := frozen_below t2 s1 hb; have u3 := frozen_below t3 s1 hb; clear hb)
    refine bodyPost_ret (v := .tuple #[.agg #[.int .i64 0, .int .i64 0], .int .i64 6]) (by simp [results, Tryd.results28, go_sem, *]) rfl ⟨ret_m HX.out.symm HY.out.symm HE.out.symm, by go_grown⟩

set_option maxHeartbeats 4000000 in
theorem move_yes (px py be d X Y : Int) (w : World) (hS : SinesAt w) (h1 : inB 0 200000 [px, py] = true) (h2 : inB 0 300000 [d] = true) (h3 : inB 0 200000 [X, Y] = true)
    (eX : px + dvr (d * sinR be) 1000000 = X) (eY : py + dvr (d * cosR be) 1000000 = Y) :
    Calls Tryd.prog 28 #[.agg #[.int .i64 px, .int .i64 py], .int .i64 be, .int .i64 d] w fun e w' => e = .returned (.tuple #[.agg #[.int .i64 (mvPX px py be d), .int .i64 (mvPY px py be d)], .int .i64 (mvE px py be d)]) ∧ Below w.heap.size w w' := by
  have HS := Lib.hid hS
  have HE := Lib.hid (show mvE px py be d = 0 from mvE0 h1 h2 (by unfold mvX mvY; rw [eX, eY]; exact h3))
  have hXY : mvPX px py be d = X ∧ mvPY px py be d = Y := by
    have := mvP_yes HE.out; unfold mvX mvY at this; rw [eX, eY] at this; exact this
  have HX := Lib.hid hXY.1
  have HY := Lib.hid hXY.2
  obtain ⟨p0, p1, p2, p3⟩ := vd_of h1
  have hd : 0 ≤ d ∧ d ≤ 300000 := by simpa [inB] using h2
  obtain ⟨⟨x0, x1⟩, x2, x3⟩ := mv_bd p0 p1 hd.1 hd.2 (sinR be) (sin_bd be).1 (sin_bd be).2
  have hc := sin_bd (be + 90)
  rw [← cos_eq] at hc
  obtain ⟨⟨y0, y1⟩, y2, y3⟩ := mv_bd p2 p3 hd.1 hd.2 (cosR be) hc.1 hc.2
  have wr1 : IntKind.i64.wrap (d * sinR be) = d * sinR be := IntWalk.i64_in _ ⟨by omega, by omega⟩
  have wr2 : IntKind.i64.wrap (d * cosR be) = d * cosR be := IntWalk.i64_in _ ⟨by omega, by omega⟩
  have wr3 : IntKind.i64.wrap (px + dvr (d * sinR be) 1000000) = X := by rw [IntWalk.i64_in _ ⟨by omega, by omega⟩, eX]
  have wr4 : IntKind.i64.wrap (py + dvr (d * cosR be) 1000000) = Y := by rw [IntWalk.i64_in _ ⟨by omega, by omega⟩, eY]
  clear hS hXY hd hc p0 p1 p2 p3 x2 x3 y2 y3 eX eY
  go_enter Tryd.func28, Tryd.ntmps28
  go_wp2_with (first
    | (go_at_call 22; refine (ok_any _ _ _).mono ?_; rintro e w1 ⟨rfl, hb⟩; have ac := Below.next (a := w) (by go_grown) hb; have c0 := cell_below (a := ⟨w.heap.size, 0, none⟩) (v := .int .i64 px) (by go_cell) hb; have c1 := cell_below (a := ⟨w.heap.size, 1, none⟩) (v := .int .i64 py) (by go_cell) hb; have c2 := cell_below (a := ⟨w.heap.size + 1, 0, none⟩) (v := .int .i64 0) (by go_cell) hb; have c3 := cell_below (a := ⟨w.heap.size + 1, 1, none⟩) (v := .int .i64 0) (by go_cell) hb; have hz00 : w.heap.size < w1.heap.size := (by have := hb.size; (try simp at this); omega); have hz01 : w.heap.size < w1.heap.size + 1 := (by have := hb.size; (try simp at this); omega); have hz02 : w.heap.size < w1.heap.size + 1 + 1 := (by have := hb.size; (try simp at this); omega); have hz10 : w.heap.size + 1 < w1.heap.size := (by have := hb.size; (try simp at this); omega); have hz11 : w.heap.size + 1 < w1.heap.size + 1 := (by have := hb.size; (try simp at this); omega); have hz12 : w.heap.size + 1 < w1.heap.size + 1 + 1 := (by have := hb.size; (try simp at this); omega); have f10 := frozen_below (a := ⟨w.heap.size + 1, 0, none⟩) (by go_simp) (by first | omega | (simp; done) | (simp; omega)) hb; have f11 := frozen_below (a := ⟨w.heap.size + 1, 1, none⟩) (by go_simp) (by first | omega | (simp; done) | (simp; omega)) hb; clear hb)
    | (go_at_call 38; refine (within_any _ _ _ _ _ (ints_one_at _ _ _ (by simp))).mono ?_; rintro e w2 ⟨rfl, hw⟩; refine Hid.out ?_))
  refine Lib.hid ?_
  have hb2 : Below w1.heap.size w1 w2 := by rw [← hw]; go_grown
  have ac2 := Below.next ac hb2
  have HS2 := Lib.hid (HS.out.below ac2)
  have d0 := cell_below c0 hb2
  have d1 := cell_below c1 hb2
  have d2 := cell_below c2 hb2
  have d3 := cell_below c3 hb2
  have g0 := frozen_below f10 hz10 hb2
  have g1 := frozen_below f11 hz10 hb2
  have s0 : w.heap.size + 1 < w2.heap.size := by have := hb2.size; omega
  clear hb2 hw c0 c1 c2 c3 f10 f11 hz00 hz01 hz02 hz10 hz11 hz12
  go_wp2_with (fail)
  go_cut [8] from 18 to 34 (fun p wx => ∃ b : Nat, p = .pointer (some ⟨b, 0, none⟩) ∧ (wx.cell? ⟨b, 0, none⟩ = some (.int .i64 X) ∧ wx.cell? ⟨b, 1, none⟩ = some (.int .i64 Y)) ∧ Below w2.heap.size w2 wx ∧ b < wx.heap.size)
  case first =>
    go_region_held3 (fun w' => w'.cell? ⟨w.heap.size, 0, none⟩ = some (.int .i64 px) ∧ w'.cell? ⟨w.heap.size, 1, none⟩ = some (.int .i64 py) ∧ Below w2.heap.size w2 w')
      (first | assumption | exact keep2 (by assumption) (by assumption) | exact drew2 (by assumption) | exact keepA2 (by assumption) | exact drew2 (keepA2 (by assumption)) | ((refine keepP2 ?_ ?_ ?_ (by assumption)) <;> (first | omega | (simp; done) | (simp; omega))) | ((refine keepX2 ?_ ?_ ?_ (by assumption)) <;> (first | omega | (simp; done) | (simp; omega))) | ((refine drew2 (keepX2 ?_ ?_ ?_ (by assumption))) <;> (first | omega | (simp; done) | (simp; omega))) | (refine ⟨?_, ?_, ?_⟩ <;> (first | (go_cell; done) | (go_grown; done))))
      (first
        | (go_at_call 45; refine (sine_any _ _ (SinesAt.below HS2.out (keepB2 (by assumption)))).mono ?_; rintro e w1 ⟨rfl, hb⟩; have sz := hb.size; (try simp at sz); (first | (have hq := new2 hb; obtain ⟨q0, q1, q2, q3, q4⟩ := hq) | (have hq := new2d hb; obtain ⟨q0, q1, q2, q3, q4⟩ := hq) | (have hq := carry2 hb q0 q1 q2 q3 q4; obtain ⟨q0, q1, q2, q3, q4⟩ := hq) | skip); (try simp only [World.size_alloc] at q0 q1 q2 q3 q4))
        | (go_at_call 46; refine (cosine_any _ _ (SinesAt.below HS2.out (keepB2 (by assumption)))).mono ?_; rintro e w1 ⟨rfl, hb⟩; have sz := hb.size; (try simp at sz); (first | (have hq := new2 hb; obtain ⟨q0, q1, q2, q3, q4⟩ := hq) | (have hq := new2d hb; obtain ⟨q0, q1, q2, q3, q4⟩ := hq) | (have hq := carry2 hb q0 q1 q2 q3 q4; obtain ⟨q0, q1, q2, q3, q4⟩ := hq) | skip); (try simp only [World.size_alloc] at q0 q1 q2 q3 q4))
        | (go_at_call 44; refine (divround_b _ _ _ (by omega) (by omega) (by omega) (by omega)).mono ?_; rintro e w1 ⟨rfl, hb⟩; have sz := hb.size; (try simp at sz); (first | (have hq := new2 hb; obtain ⟨q0, q1, q2, q3, q4⟩ := hq) | (have hq := new2d hb; obtain ⟨q0, q1, q2, q3, q4⟩ := hq) | (have hq := carry2 hb q0 q1 q2 q3 q4; obtain ⟨q0, q1, q2, q3, q4⟩ := hq) | skip); (try simp only [World.size_alloc] at q0 q1 q2 q3 q4)))
    all_goals
      go_wp2_with (fail)
      go_meet
      refine ⟨_, rfl, ⟨?_, ?_⟩, keepB2 (by assumption), ?_⟩ <;> (first | omega | (go_cell; done) | (simp; done) | (simp; omega))
  case rest =>
    obtain ⟨b, rfl, ⟨k0, k1⟩, hB, hb1⟩ := hcut
    have ac3 := Below.next ac2 hB
    have t0 := cell_below d2 hB
    have t1 := cell_below d3 hB
    have t2 := frozen_below g0 s0 hB
    have t3 := frozen_below g1 s0 hB
    have s1 : w.heap.size + 1 < wc.heap.size := by have := hB.size; omega
    clear d0 d1 d2 d3 g0 g1 hB
    go_wp2_with (go_at_call 22; refine (ok_any _ _ _).mono ?_; rintro e w3 ⟨rfl, hb⟩; have ac4 := Below.next ac3 hb; have k2 := cell_below k0 hb; have k3 := cell_below k1 hb; have u0 := cell_below t0 hb; have u1 := cell_below t1 hb; have u2 := frozen_below t2 s1 hb; have u3 := frozen_below t3 s1 hb; clear hb)
    refine bodyPost_ret (v := .tuple #[.agg #[.int .i64 X, .int .i64 Y], .int .i64 0]) (by simp [results, Tryd.results28, go_sem, *]) rfl ⟨ret_m HX.out.symm HY.out.symm HE.out.symm, by go_grown⟩

theorem move_any (px py be d : Int) (w : World) (hS : SinesAt w) :
    Calls Tryd.prog 28 #[.agg #[.int .i64 px, .int .i64 py], .int .i64 be, .int .i64 d] w fun e w' => e = .returned (.tuple #[.agg #[.int .i64 (mvPX px py be d), .int .i64 (mvPY px py be d)], .int .i64 (mvE px py be d)]) ∧ Below w.heap.size w w' := by
  cases h1 : inB 0 200000 [px, py]
  · exact move_no px py be d w (.inl h1)
  · cases h2 : inB 0 300000 [d]
    · exact move_no px py be d w (.inr h2)
    · cases h3 : inB 0 200000 [mvX px be d, mvY py be d]
      · exact move_out px py be d _ _ w hS h1 h2 h3 rfl rfl
      · exact move_yes px py be d _ _ w hS h1 h2 h3 rfl rfl
end Go.Proofs.YthccbipjmheoaaaDoor
