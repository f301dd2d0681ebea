/- Points between two ends, of the model, whole. -/
import Derived.Test.YtochniaofmeheaaBtwS0
import Derived.Test.YtochniaofmeheaaBtwS1
import Derived.Test.YtochniaofmeheaaBtwS2
import Derived.Test.YtochniaofmeheaaBtwS3
namespace Go.Proofs.Ytochniaofmeheaa
open Go.ChangeShapes Go.WideShapes Go.ChangeAt Go.RowKit Pm

theorem sl02btw_any (ax ay bx cy i n : Int) (w : World) (ha : Vd ax ay) (hb : Vd bx cy) (hn : inB 1 1000000 [n] = true) (hi : inB 0 n [i] = true) :
    Calls Try.prog 37 #[.agg #[.int .i64 ax, .int .i64 ay], .agg #[.int .i64 bx, .int .i64 cy], .int .i64 i, .int .i64 n] w fun e w' => e = .returned (.agg #[.int .i64 (btwX ax ay bx cy i n), .int .i64 (btwY ax ay bx cy i n)]) ∧ Below w.heap.size w w' := by
  unfold btwX btwY
  by_cases ht : turnedB ax ay bx cy = true
  · rw [if_pos ht, if_pos ht]
    by_cases h1 : bx < ax
    · exact sbtw_t0 ax ay bx cy i n w ha hb hn hi h1
    · have h2 : ax = bx ∧ cy < ay := by simp [turnedB] at ht; omega
      exact sbtw_t1 ax ay bx cy i n w ha hb hn hi (by simp [h2.1]) h2.2 h1
  · rw [if_neg ht, if_neg ht]
    by_cases h1 : ax < bx
    · exact sbtw_s0 ax ay bx cy i n w ha hb hn hi h1 (by simp; omega)
    · have h2 : ax = bx ∧ ay ≤ cy := by simp [turnedB] at ht; omega
      exact sbtw_s1 ax ay bx cy i n w ha hb hn hi (by simp [h2.1]) h2.2 (by omega)

set_option maxHeartbeats 2000000 in
theorem sbetween_any (ax ay bx cy i n : Int) (w : World) :
    Calls Try.prog 18 #[.agg #[.int .i64 ax, .int .i64 ay], .agg #[.int .i64 bx, .int .i64 cy], .int .i64 i, .int .i64 n] w fun e w' => e = .returned (.tuple #[.agg #[.int .i64 (btwPX ax ay bx cy i n), .int .i64 (btwPY ax ay bx cy i n)], .int .i64 (btwE ax ay bx cy i n)]) ∧ Below w.heap.size w w' := by
  by_cases hE : btwE ax ay bx cy i n = 0
  · have hc : (okB (ax, ay) && okB (bx, cy)) = true := by
      cases h : (okB (ax, ay) && okB (bx, cy))
      · rw [btwE1 h] at hE; exact absurd hE (by decide)
      · rfl
    have hr : okRange i n = true := by
      cases h : okRange i n
      · rw [btwE2 hc h] at hE; exact absurd hE (by decide)
      · rfl
    have hX : btwPX ax ay bx cy i n = btwX ax ay bx cy i n := by unfold btwPX; rw [if_pos hE]
    have hY : btwPY ax ay bx cy i n = btwY ax ay bx cy i n := by unfold btwPY; rw [if_pos hE]
    simp [okB] at hc
    simp [okRange] at hr
    rw [hX, hY, hE]
    have HC := Lib.hid (fun w => sl02btw_any ax ay bx cy i n w (vd_of hc.1) (vd_of hc.2) hr.1 hr.2)
    obtain ⟨h1, h2⟩ := hc
    obtain ⟨h3, h4⟩ := hr
    clear hE hX hY
    generalize btwX ax ay bx cy i n = X at *
    generalize btwY ax ay bx cy i n = Y at *
    go_enter Try.func18, Try.ntmps18
    go_wp2_with (first
      | (go_at_call 23; refine (sok_any _ _ _).mono ?_; rintro e w1 ⟨rfl, hb⟩; have ac := Below.next (a := w) (by go_grown) hb; have c0 := cell_below (a := ⟨w.heap.size, 0, none⟩) (v := .int .i64 ax) (by go_cell) hb; have c1 := cell_below (a := ⟨w.heap.size, 1, none⟩) (v := .int .i64 ay) (by go_cell) hb; have c2 := cell_below (a := ⟨w.heap.size + 1, 0, none⟩) (v := .int .i64 bx) (by go_cell) hb; have c3 := cell_below (a := ⟨w.heap.size + 1, 1, none⟩) (v := .int .i64 cy) (by go_cell) hb; have c4 := cell_below (a := ⟨w.heap.size + 1 + 1, 0, none⟩) (v := .int .i64 0) (by go_cell) hb; have c5 := cell_below (a := ⟨w.heap.size + 1 + 1, 1, none⟩) (v := .int .i64 0) (by go_cell) hb; have hz00 : w.heap.size < w1.heap.size := (by have := hb.size; (try simp at this); omega); have hz01 : w.heap.size < w1.heap.size + 1 := (by have := hb.size; (try simp at this); omega); have hz02 : w.heap.size < w1.heap.size + 1 + 1 := (by have := hb.size; (try simp at this); omega); have hz10 : w.heap.size + 1 < w1.heap.size := (by have := hb.size; (try simp at this); omega); have hz11 : w.heap.size + 1 < w1.heap.size + 1 := (by have := hb.size; (try simp at this); omega); have hz12 : w.heap.size + 1 < w1.heap.size + 1 + 1 := (by have := hb.size; (try simp at this); omega); have hz20 : w.heap.size + 1 + 1 < w1.heap.size := (by have := hb.size; (try simp at this); omega); have hz21 : w.heap.size + 1 + 1 < w1.heap.size + 1 := (by have := hb.size; (try simp at this); omega); have hz22 : w.heap.size + 1 + 1 < w1.heap.size + 1 + 1 := (by have := hb.size; (try simp at this); omega); have f20 := frozen_below (a := ⟨w.heap.size + 1 + 1, 0, none⟩) (by go_simp) (by first | omega | (simp; done) | (simp; omega)) hb; have f21 := frozen_below (a := ⟨w.heap.size + 1 + 1, 1, none⟩) (by go_simp) (by first | omega | (simp; done) | (simp; omega)) hb; clear hb)
      | (go_at_call 36; refine (in_any _ _ _ _).mono ?_; rintro e w1 ⟨rfl, rfl⟩)
      | (go_at_call 37; refine (HC.out _).mono ?_; rintro e w2 ⟨rfl, hb⟩; have ac2 := Below.next (a := w) (by go_grown) hb; have d0 := cell_below (a := ⟨w.heap.size + 1 + 1, 0, none⟩) (v := .int .i64 0) (by go_cell) hb; have d1 := cell_below (a := ⟨w.heap.size + 1 + 1, 1, none⟩) (v := .int .i64 0) (by go_cell) hb; have g20 := frozen_below (a := ⟨w.heap.size + 1 + 1, 0, none⟩) (by go_simp) (by first | omega | (simp; done) | (simp; omega)) hb; have g21 := frozen_below (a := ⟨w.heap.size + 1 + 1, 1, none⟩) (by go_simp) (by first | omega | (simp; done) | (simp; omega)) hb; clear hb))
    refine bodyPost_ret (v := .tuple #[.agg #[.int .i64 X, .int .i64 Y], .int .i64 0]) (by simp [results, Try.results18, go_sem, *]) rfl ⟨rfl, by go_grown⟩
  · have HX := Lib.hid (show btwPX ax ay bx cy i n = 0 by unfold btwPX; rw [if_neg hE])
    have HY := Lib.hid (show btwPY ax ay bx cy i n = 0 by unfold btwPY; rw [if_neg hE])
    cases h1 : inB 0 200000 [ax, ay]
    · have HE := Lib.hid (btwE1 (ax := ax) (ay := ay) (bx := bx) (cy := cy) (i := i) (n := n) (by simp [okB, h1]))
      clear hE
      go_enter Try.func18, Try.ntmps18
      go_wp2_with (first
        | (go_at_call 23; refine (sok_any _ _ _).mono ?_; rintro e w1 ⟨rfl, hb⟩; have ac := Below.next (a := w) (by go_grown) hb; have c0 := cell_below (a := ⟨w.heap.size + 1 + 1, 0, none⟩) (v := .int .i64 0) (by go_cell) hb; have c1 := cell_below (a := ⟨w.heap.size + 1 + 1, 1, none⟩) (v := .int .i64 0) (by go_cell) hb; have hz00 : w.heap.size < w1.heap.size := (by have := hb.size; (try simp at this); omega); have hz01 : w.heap.size < w1.heap.size + 1 := (by have := hb.size; (try simp at this); omega); have hz02 : w.heap.size < w1.heap.size + 1 + 1 := (by have := hb.size; (try simp at this); omega); have hz10 : w.heap.size + 1 < w1.heap.size := (by have := hb.size; (try simp at this); omega); have hz11 : w.heap.size + 1 < w1.heap.size + 1 := (by have := hb.size; (try simp at this); omega); have hz12 : w.heap.size + 1 < w1.heap.size + 1 + 1 := (by have := hb.size; (try simp at this); omega); have hz20 : w.heap.size + 1 + 1 < w1.heap.size := (by have := hb.size; (try simp at this); omega); have hz21 : w.heap.size + 1 + 1 < w1.heap.size + 1 := (by have := hb.size; (try simp at this); omega); have hz22 : w.heap.size + 1 + 1 < w1.heap.size + 1 + 1 := (by have := hb.size; (try simp at this); omega); have f20 := frozen_below (a := ⟨w.heap.size + 1 + 1, 0, none⟩) (by go_simp) (by first | omega | (simp; done) | (simp; omega)) hb; have f21 := frozen_below (a := ⟨w.heap.size + 1 + 1, 1, none⟩) (by go_simp) (by first | omega | (simp; done) | (simp; omega)) hb; clear hb))
      refine bodyPost_ret (v := .tuple #[.agg #[.int .i64 0, .int .i64 0], .int .i64 1]) (by simp [results, Try.results18, go_sem, *]) rfl ⟨ret_b HX.out.symm HY.out.symm HE.out.symm, by go_grown⟩
    · cases h2 : inB 0 200000 [bx, cy]
      · have HE := Lib.hid (btwE1 (ax := ax) (ay := ay) (bx := bx) (cy := cy) (i := i) (n := n) (by simp [okB, h2]))
        clear hE
        go_enter Try.func18, Try.ntmps18
        go_wp2_with (first
          | (go_at_call 23; refine (sok_any _ _ _).mono ?_; rintro e w1 ⟨rfl, hb⟩; have ac := Below.next (a := w) (by go_grown) hb; have c0 := cell_below (a := ⟨w.heap.size, 0, none⟩) (v := .int .i64 ax) (by go_cell) hb; have c1 := cell_below (a := ⟨w.heap.size, 1, none⟩) (v := .int .i64 ay) (by go_cell) hb; have c2 := cell_below (a := ⟨w.heap.size + 1, 0, none⟩) (v := .int .i64 bx) (by go_cell) hb; have c3 := cell_below (a := ⟨w.heap.size + 1, 1, none⟩) (v := .int .i64 cy) (by go_cell) hb; have c4 := cell_below (a := ⟨w.heap.size + 1 + 1, 0, none⟩) (v := .int .i64 0) (by go_cell) hb; have c5 := cell_below (a := ⟨w.heap.size + 1 + 1, 1, none⟩) (v := .int .i64 0) (by go_cell) hb; have hz00 : w.heap.size < w1.heap.size := (by have := hb.size; (try simp at this); omega); have hz01 : w.heap.size < w1.heap.size + 1 := (by have := hb.size; (try simp at this); omega); have hz02 : w.heap.size < w1.heap.size + 1 + 1 := (by have := hb.size; (try simp at this); omega); have hz10 : w.heap.size + 1 < w1.heap.size := (by have := hb.size; (try simp at this); omega); have hz11 : w.heap.size + 1 < w1.heap.size + 1 := (by have := hb.size; (try simp at this); omega); have hz12 : w.heap.size + 1 < w1.heap.size + 1 + 1 := (by have := hb.size; (try simp at this); omega); have hz20 : w.heap.size + 1 + 1 < w1.heap.size := (by have := hb.size; (try simp at this); omega); have hz21 : w.heap.size + 1 + 1 < w1.heap.size + 1 := (by have := hb.size; (try simp at this); omega); have hz22 : w.heap.size + 1 + 1 < w1.heap.size + 1 + 1 := (by have := hb.size; (try simp at this); omega); have f20 := frozen_below (a := ⟨w.heap.size + 1 + 1, 0, none⟩) (by go_simp) (by first | omega | (simp; done) | (simp; omega)) hb; have f21 := frozen_below (a := ⟨w.heap.size + 1 + 1, 1, none⟩) (by go_simp) (by first | omega | (simp; done) | (simp; omega)) hb; clear hb))
        refine bodyPost_ret (v := .tuple #[.agg #[.int .i64 0, .int .i64 0], .int .i64 1]) (by simp [results, Try.results18, go_sem, *]) rfl ⟨ret_b HX.out.symm HY.out.symm HE.out.symm, by go_grown⟩
      · have hr : okRange i n = false := by
          cases hr : okRange i n
          · rfl
          · exact absurd (btwE0 (by simp [okB, h1, h2]) hr) hE
        have HE := Lib.hid (btwE2 (ax := ax) (ay := ay) (bx := bx) (cy := cy) (i := i) (n := n) (by simp [okB, h1, h2]) hr)
        unfold okRange at hr
        clear hE
        cases hn : inB 1 1000000 [n]
        · clear hr
          go_enter Try.func18, Try.ntmps18
          go_wp2_with (first
            | (go_at_call 23; refine (sok_any _ _ _).mono ?_; rintro e w1 ⟨rfl, hb⟩; have ac := Below.next (a := w) (by go_grown) hb; have c0 := cell_below (a := ⟨w.heap.size, 0, none⟩) (v := .int .i64 ax) (by go_cell) hb; have c1 := cell_below (a := ⟨w.heap.size, 1, none⟩) (v := .int .i64 ay) (by go_cell) hb; have c2 := cell_below (a := ⟨w.heap.size + 1, 0, none⟩) (v := .int .i64 bx) (by go_cell) hb; have c3 := cell_below (a := ⟨w.heap.size + 1, 1, none⟩) (v := .int .i64 cy) (by go_cell) hb; have c4 := cell_below (a := ⟨w.heap.size + 1 + 1, 0, none⟩) (v := .int .i64 0) (by go_cell) hb; have c5 := cell_below (a := ⟨w.heap.size + 1 + 1, 1, none⟩) (v := .int .i64 0) (by go_cell) hb; have hz00 : w.heap.size < w1.heap.size := (by have := hb.size; (try simp at this); omega); have hz01 : w.heap.size < w1.heap.size + 1 := (by have := hb.size; (try simp at this); omega); have hz02 : w.heap.size < w1.heap.size + 1 + 1 := (by have := hb.size; (try simp at this); omega); have hz10 : w.heap.size + 1 < w1.heap.size := (by have := hb.size; (try simp at this); omega); have hz11 : w.heap.size + 1 < w1.heap.size + 1 := (by have := hb.size; (try simp at this); omega); have hz12 : w.heap.size + 1 < w1.heap.size + 1 + 1 := (by have := hb.size; (try simp at this); omega); have hz20 : w.heap.size + 1 + 1 < w1.heap.size := (by have := hb.size; (try simp at this); omega); have hz21 : w.heap.size + 1 + 1 < w1.heap.size + 1 := (by have := hb.size; (try simp at this); omega); have hz22 : w.heap.size + 1 + 1 < w1.heap.size + 1 + 1 := (by have := hb.size; (try simp at this); omega); have f20 := frozen_below (a := ⟨w.heap.size + 1 + 1, 0, none⟩) (by go_simp) (by first | omega | (simp; done) | (simp; omega)) hb; have f21 := frozen_below (a := ⟨w.heap.size + 1 + 1, 1, none⟩) (by go_simp) (by first | omega | (simp; done) | (simp; omega)) hb; clear hb)
            | (go_at_call 36; refine (in_any _ _ _ _).mono ?_; rintro e w1 ⟨rfl, rfl⟩))
          refine bodyPost_ret (v := .tuple #[.agg #[.int .i64 0, .int .i64 0], .int .i64 2]) (by simp [results, Try.results18, go_sem, *]) rfl ⟨ret_b HX.out.symm HY.out.symm HE.out.symm, by go_grown⟩
        · have hi : inB 0 n [i] = false := by rw [hn] at hr; simpa using hr
          clear hr
          go_enter Try.func18, Try.ntmps18
          go_wp2_with (first
            | (go_at_call 23; refine (sok_any _ _ _).mono ?_; rintro e w1 ⟨rfl, hb⟩; have ac := Below.next (a := w) (by go_grown) hb; have c0 := cell_below (a := ⟨w.heap.size, 0, none⟩) (v := .int .i64 ax) (by go_cell) hb; have c1 := cell_below (a := ⟨w.heap.size, 1, none⟩) (v := .int .i64 ay) (by go_cell) hb; have c2 := cell_below (a := ⟨w.heap.size + 1, 0, none⟩) (v := .int .i64 bx) (by go_cell) hb; have c3 := cell_below (a := ⟨w.heap.size + 1, 1, none⟩) (v := .int .i64 cy) (by go_cell) hb; have c4 := cell_below (a := ⟨w.heap.size + 1 + 1, 0, none⟩) (v := .int .i64 0) (by go_cell) hb; have c5 := cell_below (a := ⟨w.heap.size + 1 + 1, 1, none⟩) (v := .int .i64 0) (by go_cell) hb; have hz00 : w.heap.size < w1.heap.size := (by have := hb.size; (try simp at this); omega); have hz01 : w.heap.size < w1.heap.size + 1 := (by have := hb.size; (try simp at this); omega); have hz02 : w.heap.size < w1.heap.size + 1 + 1 := (by have := hb.size; (try simp at this); omega); have hz10 : w.heap.size + 1 < w1.heap.size := (by have := hb.size; (try simp at this); omega); have hz11 : w.heap.size + 1 < w1.heap.size + 1 := (by have := hb.size; (try simp at this); omega); have hz12 : w.heap.size + 1 < w1.heap.size + 1 + 1 := (by have := hb.size; (try simp at this); omega); have hz20 : w.heap.size + 1 + 1 < w1.heap.size := (by have := hb.size; (try simp at this); omega); have hz21 : w.heap.size + 1 + 1 < w1.heap.size + 1 := (by have := hb.size; (try simp at this); omega); have hz22 : w.heap.size + 1 + 1 < w1.heap.size + 1 + 1 := (by have := hb.size; (try simp at this); omega); have f20 := frozen_below (a := ⟨w.heap.size + 1 + 1, 0, none⟩) (by go_simp) (by first | omega | (simp; done) | (simp; omega)) hb; have f21 := frozen_below (a := ⟨w.heap.size + 1 + 1, 1, none⟩) (by go_simp) (by first | omega | (simp; done) | (simp; omega)) hb; clear hb)
            | (go_at_call 36; refine (in_any _ _ _ _).mono ?_; rintro e w1 ⟨rfl, rfl⟩))
          refine bodyPost_ret (v := .tuple #[.agg #[.int .i64 0, .int .i64 0], .int .i64 2]) (by simp [results, Try.results18, go_sem, *]) rfl ⟨ret_b HX.out.symm HY.out.symm HE.out.symm, by go_grown⟩
end Go.Proofs.Ytochniaofmeheaa
