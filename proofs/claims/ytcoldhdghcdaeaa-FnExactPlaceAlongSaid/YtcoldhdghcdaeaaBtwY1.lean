/- Points between two ends, of the program: a case. -/
import Derived.Test.YtcoldhdghcdaeaaBtwK
namespace Go.Proofs.Ytcoldhdghcdaeaa
open Go.ChangeShapes Go.WideShapes Go.ChangeAt Go.RowKit Pm

set_option maxHeartbeats 4000000 in
theorem between_s1 (ax ay bx cy i n : Int) (w : World) (ha : Vd ax ay) (hb' : Vd bx cy) (hn : inB 1 1000000 [n] = true) (hi : inB 0 n [i] = true)
    (h2 : (ax == bx) = true) (h3 : ay ≤ cy) (h4 : ¬ bx < ax) :
    Calls Try.prog 86 #[.agg #[.int .i64 ax, .int .i64 ay], .agg #[.int .i64 bx, .int .i64 cy], .int .i64 i, .int .i64 n] w fun e w' => e = .returned (.tuple #[.agg #[.int .i64 (ax + dvr (i * (bx - ax)) n), .int .i64 (ay + dvr (i * (cy - ay)) n)], .int .i64 0]) ∧ Below w.heap.size w w' := by
  have E2 := Lib.hid (show [(ax, ay), (bx, cy)].all okB = true by simp [okB, of_vd ha, of_vd hb'])
  obtain ⟨n0, n1⟩ : 1 ≤ n ∧ n ≤ 1000000 := by simpa [inB] using hn
  obtain ⟨i0, i1⟩ : 0 ≤ i ∧ i ≤ n := by simpa [inB] using hi
  have HA := Lib.hid ha
  have HB := Lib.hid hb'
  obtain ⟨a0, a1, a2, a3⟩ := ha
  obtain ⟨b0, b1, b2, b3⟩ := hb'
  have hX : 0 ≤ ax + dvr (i * (bx - ax)) n ∧ ax + dvr (i * (bx - ax)) n ≤ 200000 := by
    have p := dvr_part (i := i) (w := (bx - ax)) (n := n) (by omega) (by omega) (by omega)
    generalize dvr (i * (bx - ax)) n = q at *
    omega
  have hY : 0 ≤ ay + dvr (i * (cy - ay)) n ∧ ay + dvr (i * (cy - ay)) n ≤ 200000 := by
    have p := dvr_part (i := i) (w := (cy - ay)) (n := n) (by omega) (by omega) (by omega)
    generalize dvr (i * (cy - ay)) n = q at *
    omega
  obtain ⟨hX0, hX1⟩ := hX
  obtain ⟨hY0, hY1⟩ := hY
  obtain ⟨m0, m1⟩ := mul_bd (a := i) (b := (bx - ax)) (A := 1000000) (B := 200000) (by omega) (by omega) (by omega) (by omega)
  obtain ⟨m2, m3⟩ := mul_bd (a := i) (b := (cy - ay)) (A := 1000000) (B := 200000) (by omega) (by omega) (by omega) (by omega)
  have wr1 : IntKind.i64.wrap (i * (bx - ax)) = i * (bx - ax) := IntWalk.i64_in _ ⟨by omega, by omega⟩
  have wr2 : IntKind.i64.wrap (i * (cy - ay)) = i * (cy - ay) := IntWalk.i64_in _ ⟨by omega, by omega⟩
  have wr3 : IntKind.i64.wrap (ax + dvr (i * (bx - ax)) n) = ax + dvr (i * (bx - ax)) n := IntWalk.i64_in _ ⟨by omega, by omega⟩
  have wr4 : IntKind.i64.wrap (ay + dvr (i * (cy - ay)) n) = ay + dvr (i * (cy - ay)) n := IntWalk.i64_in _ ⟨by omega, by omega⟩
  go_enter Try.func86, Try.ntmps86
  go_wp2_with (first
    | (go_at_call 42; refine (arepts_any _ _ _ (pts_two _ _ _ _ _ _ (by simp))).mono ?_; rintro e w1 ⟨rfl, hb⟩; rw [E2.out]; have ac := Below.next (a := w) (by go_grown) hb; have c0 := cell_below (a := ⟨w.heap.size, 0, none⟩) (v := .int .i64 ax) (by go_cell) hb; have c1 := cell_below (a := ⟨w.heap.size, 1, none⟩) (v := .int .i64 ay) (by go_cell) hb; have c2 := cell_below (a := ⟨w.heap.size + 1, 0, none⟩) (v := .int .i64 bx) (by go_cell) hb; have c3 := cell_below (a := ⟨w.heap.size + 1, 1, none⟩) (v := .int .i64 cy) (by go_cell) hb; have c4 := cell_below (a := ⟨w.heap.size + 1 + 1, 0, none⟩) (v := .int .i64 0) (by go_cell) hb; have c5 := cell_below (a := ⟨w.heap.size + 1 + 1, 1, none⟩) (v := .int .i64 0) (by go_cell) hb; have hz00 : w.heap.size < w1.heap.size := (by have := hb.size; (try simp at this); omega); have hz01 : w.heap.size < w1.heap.size + 1 := (by have := hb.size; (try simp at this); omega); have hz02 : w.heap.size < w1.heap.size + 1 + 1 := (by have := hb.size; (try simp at this); omega); have hz10 : w.heap.size + 1 < w1.heap.size := (by have := hb.size; (try simp at this); omega); have hz11 : w.heap.size + 1 < w1.heap.size + 1 := (by have := hb.size; (try simp at this); omega); have hz12 : w.heap.size + 1 < w1.heap.size + 1 + 1 := (by have := hb.size; (try simp at this); omega); have hz20 : w.heap.size + 1 + 1 < w1.heap.size := (by have := hb.size; (try simp at this); omega); have hz21 : w.heap.size + 1 + 1 < w1.heap.size + 1 := (by have := hb.size; (try simp at this); omega); have hz22 : w.heap.size + 1 + 1 < w1.heap.size + 1 + 1 := (by have := hb.size; (try simp at this); omega); have f00 := frozen_below (a := ⟨w.heap.size, 0, none⟩) (by go_simp) (by first | omega | (simp; done) | (simp; omega)) hb; have f01 := frozen_below (a := ⟨w.heap.size, 1, none⟩) (by go_simp) (by first | omega | (simp; done) | (simp; omega)) hb; have f10 := frozen_below (a := ⟨w.heap.size + 1, 0, none⟩) (by go_simp) (by first | omega | (simp; done) | (simp; omega)) hb; have f11 := frozen_below (a := ⟨w.heap.size + 1, 1, none⟩) (by go_simp) (by first | omega | (simp; done) | (simp; omega)) hb; have f20 := frozen_below (a := ⟨w.heap.size + 1 + 1, 0, none⟩) (by go_simp) (by first | omega | (simp; done) | (simp; omega)) hb; have f21 := frozen_below (a := ⟨w.heap.size + 1 + 1, 1, none⟩) (by go_simp) (by first | omega | (simp; done) | (simp; omega)) hb; clear hb)
    | (go_at_call 44; refine (within_any _ _ _ _ _ (ints_one_at _ _ _ (by simp))).mono ?_; rintro e w1 ⟨rfl, rfl⟩)
    | (go_at_call 106; refine (wayto_any _ _ _ _ _ HA.out HB.out).mono ?_; rintro e w2 ⟨rfl, hb⟩; have ac2 := Below.next (a := w) (by go_grown) hb; have d0 := cell_below (a := ⟨w.heap.size, 0, none⟩) (v := .int .i64 ax) (by go_cell) hb; have d1 := cell_below (a := ⟨w.heap.size, 1, none⟩) (v := .int .i64 ay) (by go_cell) hb; have d2 := cell_below (a := ⟨w.heap.size + 1 + 1, 0, none⟩) (v := .int .i64 0) (by go_cell) hb; have d3 := cell_below (a := ⟨w.heap.size + 1 + 1, 1, none⟩) (v := .int .i64 0) (by go_cell) hb; have g20 := frozen_below (a := ⟨w.heap.size + 1 + 1, 0, none⟩) (by go_simp) (by first | omega | (simp; done) | (simp; omega)) hb; have g21 := frozen_below (a := ⟨w.heap.size + 1 + 1, 1, none⟩) (by go_simp) (by first | omega | (simp; done) | (simp; omega)) hb; have hy0 : w.heap.size + 1 + 1 < w2.heap.size := (by have := hb.size; (try simp at this); omega); have hy1 : w.heap.size + 1 + 1 < w2.heap.size + 1 := (by have := hb.size; (try simp at this); omega); have hy2 : w.heap.size + 1 + 1 < w2.heap.size + 1 + 1 := (by have := hb.size; (try simp at this); omega); have hy3 : w.heap.size + 1 + 1 < w2.heap.size + 1 + 1 + 1 := (by have := hb.size; (try simp at this); omega); clear hb))
  go_region_held3 (fun w' => w'.cell? ⟨w.heap.size, 0, none⟩ = some (.int .i64 ax) ∧ w'.cell? ⟨w.heap.size, 1, none⟩ = some (.int .i64 ay) ∧ w'.cell? ⟨w2.heap.size, 0, none⟩ = some (.int .i64 (bx - ax)) ∧ w'.cell? ⟨w2.heap.size, 1, none⟩ = some (.int .i64 (cy - ay)))
    (first | assumption | exact keepa4 (by assumption) | (refine ⟨cell_below d0 ?_, cell_below d1 ?_, cell_below (w := (w2.alloc (.cells #[.int .i64 (bx - ax), .int .i64 (cy - ay)] 120))) ((World.cell?_alloc_at _ _ _ _ ?_).trans rfl) ?_, cell_below (w := (w2.alloc (.cells #[.int .i64 (bx - ax), .int .i64 (cy - ay)] 120))) ((World.cell?_alloc_at _ _ _ _ ?_).trans rfl) ?_⟩ <;> (first | (go_grown; done) | (simp; done))) | (refine ⟨cell_below (w := ((w2.setCell ⟨w.heap.size + 1 + 1, 0, none⟩ (.int .i64 (ax + dvr (i * (bx - ax)) n))).setCell ⟨w.heap.size + 1 + 1, 1, none⟩ (.int .i64 (ay + dvr (i * (cy - ay)) n)))) (cell_put ?_ (cell_put ?_ d0)) ?_, cell_below (w := ((w2.setCell ⟨w.heap.size + 1 + 1, 0, none⟩ (.int .i64 (ax + dvr (i * (bx - ax)) n))).setCell ⟨w.heap.size + 1 + 1, 1, none⟩ (.int .i64 (ay + dvr (i * (cy - ay)) n)))) (cell_put ?_ (cell_put ?_ d1)) ?_, cell_below (w := (((w2.setCell ⟨w.heap.size + 1 + 1, 0, none⟩ (.int .i64 (ax + dvr (i * (bx - ax)) n))).setCell ⟨w.heap.size + 1 + 1, 1, none⟩ (.int .i64 (ay + dvr (i * (cy - ay)) n))).alloc (.cells #[.int .i64 (bx - ax), .int .i64 (cy - ay)] 120))) ((World.cell?_alloc_at _ _ _ _ ?_).trans rfl) ?_, cell_below (w := (((w2.setCell ⟨w.heap.size + 1 + 1, 0, none⟩ (.int .i64 (ax + dvr (i * (bx - ax)) n))).setCell ⟨w.heap.size + 1 + 1, 1, none⟩ (.int .i64 (ay + dvr (i * (cy - ay)) n))).alloc (.cells #[.int .i64 (bx - ax), .int .i64 (cy - ay)] 120))) ((World.cell?_alloc_at _ _ _ _ ?_).trans rfl) ?_⟩ <;> (first | (go_grown; done) | (simp; done))))
    (first
      | (go_at_call 107; refine (divround_at _ _ _ (by omega) (by omega) (by omega) (by omega)).mono ?_; rintro e w1 ⟨rfl, rfl⟩))
  go_wp2
  refine bodyPost_ret (v := .tuple #[.agg #[.int .i64 (ax + dvr (i * (bx - ax)) n), .int .i64 (ay + dvr (i * (cy - ay)) n)], .int .i64 0]) (by simp [results, Try.results86, go_sem, *]) rfl ⟨rfl, by go_grown⟩
end Go.Proofs.Ytcoldhdghcdaeaa
