/- Moves, of the model. -/
import Derived.Test.YtochniaofmeheaaDoorMvS
namespace Go.Proofs.YtochniaofmeheaaDoor
open Go.ChangeShapes Go.WideShapes Go.ChangeAt Go.RowKit Pm

theorem frozen_below {w w' : World} {a : Addr} (h : w.frozen? a = false) (hl : a.block < w.heap.size) (hb : Below w.heap.size w w') : w'.frozen? a = false := by
  rw [hb.frozen hl]; exact h

set_option maxHeartbeats 2000000 in
theorem smove_any (px py be d : Int) (w : World) :
    Calls Tryd.prog 22 #[.agg #[.int .i64 px, .int .i64 py], .int .i64 be, .int .i64 d] w fun e w' => e = .returned (.tuple #[.agg #[.int .i64 (mvPX px py be d), .int .i64 (mvPY px py be d)], .int .i64 (mvE px py be d)]) ∧ Below w.heap.size w w' := by
  cases h1 : inB 0 200000 [px, py]
  · have HE := Lib.hid (mvE1 (be := be) (d := d) h1)
    obtain ⟨hx, hy⟩ := mvP_no (px := px) (py := py) (be := be) (d := d) (by rw [HE.out]; decide)
    have HX := Lib.hid hx
    have HY := Lib.hid hy
    clear hx hy
    go_enter Tryd.func22, Tryd.ntmps22
    go_wp2_with (first
      | (go_at_call 31; refine (sok_any _ _ _).mono ?_; rintro e w1 ⟨rfl, hb⟩; have ac := Below.next (a := w) (by go_grown) hb; have c0 := cell_below (a := ⟨w.heap.size, 0, none⟩) (v := .int .i64 px) (by go_cell) hb; have c1 := cell_below (a := ⟨w.heap.size, 1, none⟩) (v := .int .i64 py) (by go_cell) hb; have c2 := cell_below (a := ⟨w.heap.size + 1, 0, none⟩) (v := .int .i64 0) (by go_cell) hb; have c3 := cell_below (a := ⟨w.heap.size + 1, 1, none⟩) (v := .int .i64 0) (by go_cell) hb; have hz00 : w.heap.size < w1.heap.size := (by have := hb.size; (try simp at this); omega); have hz01 : w.heap.size < w1.heap.size + 1 := (by have := hb.size; (try simp at this); omega); have hz02 : w.heap.size < w1.heap.size + 1 + 1 := (by have := hb.size; (try simp at this); omega); have hz10 : w.heap.size + 1 < w1.heap.size := (by have := hb.size; (try simp at this); omega); have hz11 : w.heap.size + 1 < w1.heap.size + 1 := (by have := hb.size; (try simp at this); omega); have hz12 : w.heap.size + 1 < w1.heap.size + 1 + 1 := (by have := hb.size; (try simp at this); omega); have f10 := frozen_below (a := ⟨w.heap.size + 1, 0, none⟩) (by go_simp) (by first | omega | (simp; done) | (simp; omega)) hb; have f11 := frozen_below (a := ⟨w.heap.size + 1, 1, none⟩) (by go_simp) (by first | omega | (simp; done) | (simp; omega)) hb; clear hb))
    refine bodyPost_ret (v := .tuple #[.agg #[.int .i64 0, .int .i64 0], .int .i64 1]) (by simp [results, Tryd.results22, go_sem, *]) rfl ⟨ret_m HX.out.symm HY.out.symm HE.out.symm, by go_grown⟩
  · have hv := vd_of h1
    cases h2 : inB 0 300000 [d]
    · have HE := Lib.hid (mvE2 (be := be) h1 h2)
      obtain ⟨hx, hy⟩ := mvP_no (px := px) (py := py) (be := be) (d := d) (by rw [HE.out]; decide)
      have HX := Lib.hid hx
      have HY := Lib.hid hy
      clear hx hy hv
      go_enter Tryd.func22, Tryd.ntmps22
      go_wp2_with (first
        | (go_at_call 31; refine (sok_any _ _ _).mono ?_; rintro e w1 ⟨rfl, hb⟩; have ac := Below.next (a := w) (by go_grown) hb; have c0 := cell_below (a := ⟨w.heap.size, 0, none⟩) (v := .int .i64 px) (by go_cell) hb; have c1 := cell_below (a := ⟨w.heap.size, 1, none⟩) (v := .int .i64 py) (by go_cell) hb; have c2 := cell_below (a := ⟨w.heap.size + 1, 0, none⟩) (v := .int .i64 0) (by go_cell) hb; have c3 := cell_below (a := ⟨w.heap.size + 1, 1, none⟩) (v := .int .i64 0) (by go_cell) hb; have hz00 : w.heap.size < w1.heap.size := (by have := hb.size; (try simp at this); omega); have hz01 : w.heap.size < w1.heap.size + 1 := (by have := hb.size; (try simp at this); omega); have hz02 : w.heap.size < w1.heap.size + 1 + 1 := (by have := hb.size; (try simp at this); omega); have hz10 : w.heap.size + 1 < w1.heap.size := (by have := hb.size; (try simp at this); omega); have hz11 : w.heap.size + 1 < w1.heap.size + 1 := (by have := hb.size; (try simp at this); omega); have hz12 : w.heap.size + 1 < w1.heap.size + 1 + 1 := (by have := hb.size; (try simp at this); omega); have f10 := frozen_below (a := ⟨w.heap.size + 1, 0, none⟩) (by go_simp) (by first | omega | (simp; done) | (simp; omega)) hb; have f11 := frozen_below (a := ⟨w.heap.size + 1, 1, none⟩) (by go_simp) (by first | omega | (simp; done) | (simp; omega)) hb; clear hb)
        | (go_at_call 42; refine (in_any _ _ _ _).mono ?_; rintro e w1 ⟨rfl, rfl⟩))
      refine bodyPost_ret (v := .tuple #[.agg #[.int .i64 0, .int .i64 0], .int .i64 2]) (by simp [results, Tryd.results22, go_sem, *]) rfl ⟨ret_m HX.out.symm HY.out.symm HE.out.symm, by go_grown⟩
    · have hd : 0 ≤ d ∧ d ≤ 300000 := by simpa [inB] using h2
      have HM := Lib.hid (fun w => smove_step px py be d w hv hd.1 hd.2)
      cases h3 : inB 0 200000 [mvX px be d, mvY py be d]
      · have HE := Lib.hid (mvE6 h1 h2 h3)
        obtain ⟨hx, hy⟩ := mvP_no (px := px) (py := py) (be := be) (d := d) (by rw [HE.out]; decide)
        have HX := Lib.hid hx
        have HY := Lib.hid hy
        clear hx hy hv hd
        generalize mvX px be d = X at *
        generalize mvY py be d = Y at *
        go_enter Tryd.func22, Tryd.ntmps22
        go_wp2_with (first
          | (go_at_call 31; refine (sok_any _ _ _).mono ?_; rintro e w1 ⟨rfl, hb⟩; have ac := Below.next (a := w) (by go_grown) hb; have c0 := cell_below (a := ⟨w.heap.size, 0, none⟩) (v := .int .i64 px) (by go_cell) hb; have c1 := cell_below (a := ⟨w.heap.size, 1, none⟩) (v := .int .i64 py) (by go_cell) hb; have c2 := cell_below (a := ⟨w.heap.size + 1, 0, none⟩) (v := .int .i64 0) (by go_cell) hb; have c3 := cell_below (a := ⟨w.heap.size + 1, 1, none⟩) (v := .int .i64 0) (by go_cell) hb; have hz00 : w.heap.size < w1.heap.size := (by have := hb.size; (try simp at this); omega); have hz01 : w.heap.size < w1.heap.size + 1 := (by have := hb.size; (try simp at this); omega); have hz02 : w.heap.size < w1.heap.size + 1 + 1 := (by have := hb.size; (try simp at this); omega); have hz10 : w.heap.size + 1 < w1.heap.size := (by have := hb.size; (try simp at this); omega); have hz11 : w.heap.size + 1 < w1.heap.size + 1 := (by have := hb.size; (try simp at this); omega); have hz12 : w.heap.size + 1 < w1.heap.size + 1 + 1 := (by have := hb.size; (try simp at this); omega); have f10 := frozen_below (a := ⟨w.heap.size + 1, 0, none⟩) (by go_simp) (by first | omega | (simp; done) | (simp; omega)) hb; have f11 := frozen_below (a := ⟨w.heap.size + 1, 1, none⟩) (by go_simp) (by first | omega | (simp; done) | (simp; omega)) hb; clear hb)
          | (go_at_call 31; refine (sok_any _ _ _).mono ?_; rintro e w1 ⟨rfl, hb⟩; have ac := Below.next (a := w) (by go_grown) hb; have c0 := cell_below (a := ⟨w.heap.size + 1, 0, none⟩) (v := .int .i64 0) (by go_cell) hb; have c1 := cell_below (a := ⟨w.heap.size + 1, 1, none⟩) (v := .int .i64 0) (by go_cell) hb; have hz00 : w.heap.size < w1.heap.size := (by have := hb.size; (try simp at this); omega); have hz01 : w.heap.size < w1.heap.size + 1 := (by have := hb.size; (try simp at this); omega); have hz02 : w.heap.size < w1.heap.size + 1 + 1 := (by have := hb.size; (try simp at this); omega); have hz10 : w.heap.size + 1 < w1.heap.size := (by have := hb.size; (try simp at this); omega); have hz11 : w.heap.size + 1 < w1.heap.size + 1 := (by have := hb.size; (try simp at this); omega); have hz12 : w.heap.size + 1 < w1.heap.size + 1 + 1 := (by have := hb.size; (try simp at this); omega); have f10 := frozen_below (a := ⟨w.heap.size + 1, 0, none⟩) (by go_simp) (by first | omega | (simp; done) | (simp; omega)) hb; have f11 := frozen_below (a := ⟨w.heap.size + 1, 1, none⟩) (by go_simp) (by first | omega | (simp; done) | (simp; omega)) hb; (try (have hq := new2 hb; obtain ⟨e0, e1, e2, e3, e4⟩ := hq)); clear hb)
          | (go_at_call 42; refine (in_any _ _ _ _).mono ?_; rintro e w1 ⟨rfl, rfl⟩)
          | (go_at_call 43; refine (HM.out _).mono ?_; rintro e w2 ⟨rfl, hb⟩; have ac2 := Below.next (a := w) (by go_grown) hb; have d0 := cell_below (a := ⟨w.heap.size + 1, 0, none⟩) (v := .int .i64 0) (by go_cell) hb; have d1 := cell_below (a := ⟨w.heap.size + 1, 1, none⟩) (v := .int .i64 0) (by go_cell) hb; have g10 := frozen_below (a := ⟨w.heap.size + 1, 0, none⟩) (by go_simp) (by first | omega | (simp; done) | (simp; omega)) hb; have g11 := frozen_below (a := ⟨w.heap.size + 1, 1, none⟩) (by go_simp) (by first | omega | (simp; done) | (simp; omega)) hb; have hy0 : w.heap.size + 1 < w2.heap.size := (by have := hb.size; (try simp at this); omega); have hy1 : w.heap.size + 1 < w2.heap.size + 1 := (by have := hb.size; (try simp at this); omega); have hy2 : w.heap.size + 1 < w2.heap.size + 1 + 1 := (by have := hb.size; (try simp at this); omega); clear hb))
        refine bodyPost_ret (v := .tuple #[.agg #[.int .i64 0, .int .i64 0], .int .i64 6]) (by simp [results, Tryd.results22, go_sem, *]) rfl ⟨ret_m HX.out.symm HY.out.symm HE.out.symm, by go_grown⟩
      · have HE := Lib.hid (mvE0 h1 h2 h3)
        obtain ⟨hx, hy⟩ := mvP_yes HE.out
        have HX := Lib.hid hx
        have HY := Lib.hid hy
        clear hx hy hv hd
        generalize mvX px be d = X at *
        generalize mvY py be d = Y at *
        go_enter Tryd.func22, Tryd.ntmps22
        go_wp2_with (first
          | (go_at_call 31; refine (sok_any _ _ _).mono ?_; rintro e w1 ⟨rfl, hb⟩; have ac := Below.next (a := w) (by go_grown) hb; have c0 := cell_below (a := ⟨w.heap.size, 0, none⟩) (v := .int .i64 px) (by go_cell) hb; have c1 := cell_below (a := ⟨w.heap.size, 1, none⟩) (v := .int .i64 py) (by go_cell) hb; have c2 := cell_below (a := ⟨w.heap.size + 1, 0, none⟩) (v := .int .i64 0) (by go_cell) hb; have c3 := cell_below (a := ⟨w.heap.size + 1, 1, none⟩) (v := .int .i64 0) (by go_cell) hb; have hz00 : w.heap.size < w1.heap.size := (by have := hb.size; (try simp at this); omega); have hz01 : w.heap.size < w1.heap.size + 1 := (by have := hb.size; (try simp at this); omega); have hz02 : w.heap.size < w1.heap.size + 1 + 1 := (by have := hb.size; (try simp at this); omega); have hz10 : w.heap.size + 1 < w1.heap.size := (by have := hb.size; (try simp at this); omega); have hz11 : w.heap.size + 1 < w1.heap.size + 1 := (by have := hb.size; (try simp at this); omega); have hz12 : w.heap.size + 1 < w1.heap.size + 1 + 1 := (by have := hb.size; (try simp at this); omega); have f10 := frozen_below (a := ⟨w.heap.size + 1, 0, none⟩) (by go_simp) (by first | omega | (simp; done) | (simp; omega)) hb; have f11 := frozen_below (a := ⟨w.heap.size + 1, 1, none⟩) (by go_simp) (by first | omega | (simp; done) | (simp; omega)) hb; clear hb)
          | (go_at_call 31; refine (sok_any _ _ _).mono ?_; rintro e w1 ⟨rfl, hb⟩; have ac := Below.next (a := w) (by go_grown) hb; have c0 := cell_below (a := ⟨w.heap.size + 1, 0, none⟩) (v := .int .i64 0) (by go_cell) hb; have c1 := cell_below (a := ⟨w.heap.size + 1, 1, none⟩) (v := .int .i64 0) (by go_cell) hb; have hz00 : w.heap.size < w1.heap.size := (by have := hb.size; (try simp at this); omega); have hz01 : w.heap.size < w1.heap.size + 1 := (by have := hb.size; (try simp at this); omega); have hz02 : w.heap.size < w1.heap.size + 1 + 1 := (by have := hb.size; (try simp at this); omega); have hz10 : w.heap.size + 1 < w1.heap.size := (by have := hb.size; (try simp at this); omega); have hz11 : w.heap.size + 1 < w1.heap.size + 1 := (by have := hb.size; (try simp at this); omega); have hz12 : w.heap.size + 1 < w1.heap.size + 1 + 1 := (by have := hb.size; (try simp at this); omega); have f10 := frozen_below (a := ⟨w.heap.size + 1, 0, none⟩) (by go_simp) (by first | omega | (simp; done) | (simp; omega)) hb; have f11 := frozen_below (a := ⟨w.heap.size + 1, 1, none⟩) (by go_simp) (by first | omega | (simp; done) | (simp; omega)) hb; (try (have hq := new2 hb; obtain ⟨e0, e1, e2, e3, e4⟩ := hq)); clear hb)
          | (go_at_call 42; refine (in_any _ _ _ _).mono ?_; rintro e w1 ⟨rfl, rfl⟩)
          | (go_at_call 43; refine (HM.out _).mono ?_; rintro e w2 ⟨rfl, hb⟩; have ac2 := Below.next (a := w) (by go_grown) hb; have d0 := cell_below (a := ⟨w.heap.size + 1, 0, none⟩) (v := .int .i64 0) (by go_cell) hb; have d1 := cell_below (a := ⟨w.heap.size + 1, 1, none⟩) (v := .int .i64 0) (by go_cell) hb; have g10 := frozen_below (a := ⟨w.heap.size + 1, 0, none⟩) (by go_simp) (by first | omega | (simp; done) | (simp; omega)) hb; have g11 := frozen_below (a := ⟨w.heap.size + 1, 1, none⟩) (by go_simp) (by first | omega | (simp; done) | (simp; omega)) hb; have hy0 : w.heap.size + 1 < w2.heap.size := (by have := hb.size; (try simp at this); omega); have hy1 : w.heap.size + 1 < w2.heap.size + 1 := (by have := hb.size; (try simp at this); omega); have hy2 : w.heap.size + 1 < w2.heap.size + 1 + 1 := (by have := hb.size; (try simp at this); omega); clear hb))
        refine bodyPost_ret (v := .tuple #[.agg #[.int .i64 X, .int .i64 Y], .int .i64 0]) (by simp [results, Tryd.results22, go_sem, *]) rfl ⟨ret_m HX.out.symm HY.out.symm HE.out.symm, by go_grown⟩
end Go.Proofs.YtochniaofmeheaaDoor
