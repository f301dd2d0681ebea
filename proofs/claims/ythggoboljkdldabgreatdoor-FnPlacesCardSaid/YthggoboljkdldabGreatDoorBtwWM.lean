/- Points that need not be valid. Points between two ends, of the model, points that need not be valid: a case. Points between two ends, of the model, points that need not be valid: a case. Points between two ends, of the model, points that need not be valid: a case. Points between two ends, of the model, points that need not be valid: a case. Points between two ends, of the model, points that need not be valid, whole. -/
import Derived.Test.YthggoboljkdldabGreatDoorBtwK
import Derived.Test.YthggoboljkdldabGreatDoorDivS
namespace Go.Proofs.YthggoboljkdldabGreatDoor
/-- Coordinates as they are drawn. -/
def Vw (x y : Int) : Prop := -1 ≤ x ∧ x ≤ 200001 ∧ -1 ≤ y ∧ y ≤ 200001
end Go.Proofs.YthggoboljkdldabGreatDoor
namespace Go.Proofs.YthggoboljkdldabGreatDoor
open Go.ChangeShapes Go.WideShapes Go.ChangeAt Go.RowKit Pm

set_option maxHeartbeats 4000000 in
theorem sbtw_s0 (ax ay bx cy i n : Int) (w : World) (ha : Vw ax ay) (hb' : Vw bx cy) (hn : inB 1 1000000 [n] = true) (hi : inB 0 n [i] = true)
    (h1 : ax < bx) (h2 : (ax == bx) = false) :
    Calls Tryz.prog 50 #[.agg #[.int .i64 ax, .int .i64 ay], .agg #[.int .i64 bx, .int .i64 cy], .int .i64 i, .int .i64 n] w fun e w' => e = .returned (.agg #[.int .i64 (ax + dvr (i * (bx - ax)) n), .int .i64 (ay + dvr (i * (cy - ay)) n)]) ∧ Below w.heap.size w w' := by
  obtain ⟨n0, n1⟩ : 1 ≤ n ∧ n ≤ 1000000 := by simpa [inB] using hn
  obtain ⟨i0, i1⟩ : 0 ≤ i ∧ i ≤ n := by simpa [inB] using hi
  obtain ⟨a0, a1, a2, a3⟩ := ha
  obtain ⟨b0, b1, b2, b3⟩ := hb'
  have hX : -1 ≤ ax + dvr (i * (bx - ax)) n ∧ ax + dvr (i * (bx - ax)) n ≤ 200001 := by
    have p := dvr_part (i := i) (w := (bx - ax)) (n := n) (by omega) (by omega) (by omega)
    generalize dvr (i * (bx - ax)) n = q at *
    omega
  have hY : -1 ≤ ay + dvr (i * (cy - ay)) n ∧ ay + dvr (i * (cy - ay)) n ≤ 200001 := by
    have p := dvr_part (i := i) (w := (cy - ay)) (n := n) (by omega) (by omega) (by omega)
    generalize dvr (i * (cy - ay)) n = q at *
    omega
  obtain ⟨hX0, hX1⟩ := hX
  obtain ⟨hY0, hY1⟩ := hY
  obtain ⟨m0, m1⟩ := mul_bd (a := i) (b := (bx - ax)) (A := 1000000) (B := 200002) (by omega) (by omega) (by omega) (by omega)
  obtain ⟨m2, m3⟩ := mul_bd (a := i) (b := (cy - ay)) (A := 1000000) (B := 200002) (by omega) (by omega) (by omega) (by omega)
  have wr1 : IntKind.i64.wrap (i * (bx - ax)) = i * (bx - ax) := IntWalk.i64_in _ ⟨by omega, by omega⟩
  have wr2 : IntKind.i64.wrap (i * (cy - ay)) = i * (cy - ay) := IntWalk.i64_in _ ⟨by omega, by omega⟩
  have wr3 : IntKind.i64.wrap (ax + dvr (i * (bx - ax)) n) = ax + dvr (i * (bx - ax)) n := IntWalk.i64_in _ ⟨by omega, by omega⟩
  have wr4 : IntKind.i64.wrap (ay + dvr (i * (cy - ay)) n) = ay + dvr (i * (cy - ay)) n := IntWalk.i64_in _ ⟨by omega, by omega⟩
  have wr5 : IntKind.i64.wrap (bx - ax) = (bx - ax) := IntWalk.i64_in _ ⟨by omega, by omega⟩
  have wr6 : IntKind.i64.wrap (cy - ay) = (cy - ay) := IntWalk.i64_in _ ⟨by omega, by omega⟩
  go_enter Tryz.func50, Tryz.ntmps50
  go_wp2_with (fail)
  go_region_held3 (fun w' => w'.cell? ⟨w.heap.size, 0, none⟩ = some (.int .i64 ax) ∧ w'.cell? ⟨w.heap.size, 1, none⟩ = some (.int .i64 ay) ∧ w'.cell? ⟨w.heap.size + 1, 0, none⟩ = some (.int .i64 bx) ∧ w'.cell? ⟨w.heap.size + 1, 1, none⟩ = some (.int .i64 cy))
    (first | assumption | (refine ⟨?_, ?_, ?_, ?_⟩ <;> (go_cell; done)))
    (first
      | (go_at_call 60; refine (sdiv_any _ _ _ (by omega) (by omega) (by omega) (by omega) (by omega)).mono ?_; rintro e w1 ⟨rfl, rfl⟩))
  go_wp2
  go_returns
  exact ⟨rfl, by go_grown⟩
end Go.Proofs.YthggoboljkdldabGreatDoor
namespace Go.Proofs.YthggoboljkdldabGreatDoor
open Go.ChangeShapes Go.WideShapes Go.ChangeAt Go.RowKit Pm

set_option maxHeartbeats 4000000 in
theorem sbtw_s1 (ax ay bx cy i n : Int) (w : World) (ha : Vw ax ay) (hb' : Vw bx cy) (hn : inB 1 1000000 [n] = true) (hi : inB 0 n [i] = true)
    (h2 : (ax == bx) = true) (h3 : ay ≤ cy) (h4 : ¬ bx < ax) :
    Calls Tryz.prog 50 #[.agg #[.int .i64 ax, .int .i64 ay], .agg #[.int .i64 bx, .int .i64 cy], .int .i64 i, .int .i64 n] w fun e w' => e = .returned (.agg #[.int .i64 (ax + dvr (i * (bx - ax)) n), .int .i64 (ay + dvr (i * (cy - ay)) n)]) ∧ Below w.heap.size w w' := by
  obtain ⟨n0, n1⟩ : 1 ≤ n ∧ n ≤ 1000000 := by simpa [inB] using hn
  obtain ⟨i0, i1⟩ : 0 ≤ i ∧ i ≤ n := by simpa [inB] using hi
  obtain ⟨a0, a1, a2, a3⟩ := ha
  obtain ⟨b0, b1, b2, b3⟩ := hb'
  have hX : -1 ≤ ax + dvr (i * (bx - ax)) n ∧ ax + dvr (i * (bx - ax)) n ≤ 200001 := by
    have p := dvr_part (i := i) (w := (bx - ax)) (n := n) (by omega) (by omega) (by omega)
    generalize dvr (i * (bx - ax)) n = q at *
    omega
  have hY : -1 ≤ ay + dvr (i * (cy - ay)) n ∧ ay + dvr (i * (cy - ay)) n ≤ 200001 := by
    have p := dvr_part (i := i) (w := (cy - ay)) (n := n) (by omega) (by omega) (by omega)
    generalize dvr (i * (cy - ay)) n = q at *
    omega
  obtain ⟨hX0, hX1⟩ := hX
  obtain ⟨hY0, hY1⟩ := hY
  obtain ⟨m0, m1⟩ := mul_bd (a := i) (b := (bx - ax)) (A := 1000000) (B := 200002) (by omega) (by omega) (by omega) (by omega)
  obtain ⟨m2, m3⟩ := mul_bd (a := i) (b := (cy - ay)) (A := 1000000) (B := 200002) (by omega) (by omega) (by omega) (by omega)
  have wr1 : IntKind.i64.wrap (i * (bx - ax)) = i * (bx - ax) := IntWalk.i64_in _ ⟨by omega, by omega⟩
  have wr2 : IntKind.i64.wrap (i * (cy - ay)) = i * (cy - ay) := IntWalk.i64_in _ ⟨by omega, by omega⟩
  have wr3 : IntKind.i64.wrap (ax + dvr (i * (bx - ax)) n) = ax + dvr (i * (bx - ax)) n := IntWalk.i64_in _ ⟨by omega, by omega⟩
  have wr4 : IntKind.i64.wrap (ay + dvr (i * (cy - ay)) n) = ay + dvr (i * (cy - ay)) n := IntWalk.i64_in _ ⟨by omega, by omega⟩
  have wr5 : IntKind.i64.wrap (bx - ax) = (bx - ax) := IntWalk.i64_in _ ⟨by omega, by omega⟩
  have wr6 : IntKind.i64.wrap (cy - ay) = (cy - ay) := IntWalk.i64_in _ ⟨by omega, by omega⟩
  go_enter Tryz.func50, Tryz.ntmps50
  go_wp2_with (fail)
  go_region_held3 (fun w' => w'.cell? ⟨w.heap.size, 0, none⟩ = some (.int .i64 ax) ∧ w'.cell? ⟨w.heap.size, 1, none⟩ = some (.int .i64 ay) ∧ w'.cell? ⟨w.heap.size + 1, 0, none⟩ = some (.int .i64 bx) ∧ w'.cell? ⟨w.heap.size + 1, 1, none⟩ = some (.int .i64 cy))
    (first | assumption | (refine ⟨?_, ?_, ?_, ?_⟩ <;> (go_cell; done)))
    (first
      | (go_at_call 60; refine (sdiv_any _ _ _ (by omega) (by omega) (by omega) (by omega) (by omega)).mono ?_; rintro e w1 ⟨rfl, rfl⟩))
  go_wp2
  go_returns
  exact ⟨rfl, by go_grown⟩
end Go.Proofs.YthggoboljkdldabGreatDoor
namespace Go.Proofs.YthggoboljkdldabGreatDoor
open Go.ChangeShapes Go.WideShapes Go.ChangeAt Go.RowKit Pm

set_option maxHeartbeats 4000000 in
theorem sbtw_t0 (ax ay bx cy i n : Int) (w : World) (ha : Vw ax ay) (hb' : Vw bx cy) (hn : inB 1 1000000 [n] = true) (hi : inB 0 n [i] = true)
    (h1 : bx < ax) :
    Calls Tryz.prog 50 #[.agg #[.int .i64 ax, .int .i64 ay], .agg #[.int .i64 bx, .int .i64 cy], .int .i64 i, .int .i64 n] w fun e w' => e = .returned (.agg #[.int .i64 (bx + dvr ((n - i) * (ax - bx)) n), .int .i64 (cy + dvr ((n - i) * (ay - cy)) n)]) ∧ Below w.heap.size w w' := by
  obtain ⟨n0, n1⟩ : 1 ≤ n ∧ n ≤ 1000000 := by simpa [inB] using hn
  obtain ⟨i0, i1⟩ : 0 ≤ i ∧ i ≤ n := by simpa [inB] using hi
  obtain ⟨a0, a1, a2, a3⟩ := ha
  obtain ⟨b0, b1, b2, b3⟩ := hb'
  have hX : -1 ≤ bx + dvr ((n - i) * (ax - bx)) n ∧ bx + dvr ((n - i) * (ax - bx)) n ≤ 200001 := by
    have p := dvr_part (i := (n - i)) (w := (ax - bx)) (n := n) (by omega) (by omega) (by omega)
    generalize dvr ((n - i) * (ax - bx)) n = q at *
    omega
  have hY : -1 ≤ cy + dvr ((n - i) * (ay - cy)) n ∧ cy + dvr ((n - i) * (ay - cy)) n ≤ 200001 := by
    have p := dvr_part (i := (n - i)) (w := (ay - cy)) (n := n) (by omega) (by omega) (by omega)
    generalize dvr ((n - i) * (ay - cy)) n = q at *
    omega
  obtain ⟨hX0, hX1⟩ := hX
  obtain ⟨hY0, hY1⟩ := hY
  obtain ⟨m0, m1⟩ := mul_bd (a := (n - i)) (b := (ax - bx)) (A := 1000000) (B := 200002) (by omega) (by omega) (by omega) (by omega)
  obtain ⟨m2, m3⟩ := mul_bd (a := (n - i)) (b := (ay - cy)) (A := 1000000) (B := 200002) (by omega) (by omega) (by omega) (by omega)
  have wr1 : IntKind.i64.wrap ((n - i) * (ax - bx)) = (n - i) * (ax - bx) := IntWalk.i64_in _ ⟨by omega, by omega⟩
  have wr2 : IntKind.i64.wrap ((n - i) * (ay - cy)) = (n - i) * (ay - cy) := IntWalk.i64_in _ ⟨by omega, by omega⟩
  have wr3 : IntKind.i64.wrap (bx + dvr ((n - i) * (ax - bx)) n) = bx + dvr ((n - i) * (ax - bx)) n := IntWalk.i64_in _ ⟨by omega, by omega⟩
  have wr4 : IntKind.i64.wrap (cy + dvr ((n - i) * (ay - cy)) n) = cy + dvr ((n - i) * (ay - cy)) n := IntWalk.i64_in _ ⟨by omega, by omega⟩
  have wr5 : IntKind.i64.wrap (ax - bx) = (ax - bx) := IntWalk.i64_in _ ⟨by omega, by omega⟩
  have wr6 : IntKind.i64.wrap (ay - cy) = (ay - cy) := IntWalk.i64_in _ ⟨by omega, by omega⟩
  go_enter Tryz.func50, Tryz.ntmps50
  go_wp2_with (fail)
  go_region_held3 (fun w' => w'.cell? ⟨w.heap.size, 0, none⟩ = some (.int .i64 bx) ∧ w'.cell? ⟨w.heap.size, 1, none⟩ = some (.int .i64 cy) ∧ w'.cell? ⟨w.heap.size + 1, 0, none⟩ = some (.int .i64 ax) ∧ w'.cell? ⟨w.heap.size + 1, 1, none⟩ = some (.int .i64 ay))
    (first | assumption | (refine ⟨?_, ?_, ?_, ?_⟩ <;> (go_cell; done)))
    (first
      | (go_at_call 60; refine (sdiv_any _ _ _ (by omega) (by omega) (by omega) (by omega) (by omega)).mono ?_; rintro e w1 ⟨rfl, rfl⟩))
  go_wp2
  go_returns
  exact ⟨rfl, by go_grown⟩
end Go.Proofs.YthggoboljkdldabGreatDoor
namespace Go.Proofs.YthggoboljkdldabGreatDoor
open Go.ChangeShapes Go.WideShapes Go.ChangeAt Go.RowKit Pm

set_option maxHeartbeats 4000000 in
theorem sbtw_t1 (ax ay bx cy i n : Int) (w : World) (ha : Vw ax ay) (hb' : Vw bx cy) (hn : inB 1 1000000 [n] = true) (hi : inB 0 n [i] = true)
    (h2 : (ax == bx) = true) (h3 : cy < ay) (h4 : ¬ bx < ax) :
    Calls Tryz.prog 50 #[.agg #[.int .i64 ax, .int .i64 ay], .agg #[.int .i64 bx, .int .i64 cy], .int .i64 i, .int .i64 n] w fun e w' => e = .returned (.agg #[.int .i64 (bx + dvr ((n - i) * (ax - bx)) n), .int .i64 (cy + dvr ((n - i) * (ay - cy)) n)]) ∧ Below w.heap.size w w' := by
  obtain ⟨n0, n1⟩ : 1 ≤ n ∧ n ≤ 1000000 := by simpa [inB] using hn
  obtain ⟨i0, i1⟩ : 0 ≤ i ∧ i ≤ n := by simpa [inB] using hi
  obtain ⟨a0, a1, a2, a3⟩ := ha
  obtain ⟨b0, b1, b2, b3⟩ := hb'
  have hX : -1 ≤ bx + dvr ((n - i) * (ax - bx)) n ∧ bx + dvr ((n - i) * (ax - bx)) n ≤ 200001 := by
    have p := dvr_part (i := (n - i)) (w := (ax - bx)) (n := n) (by omega) (by omega) (by omega)
    generalize dvr ((n - i) * (ax - bx)) n = q at *
    omega
  have hY : -1 ≤ cy + dvr ((n - i) * (ay - cy)) n ∧ cy + dvr ((n - i) * (ay - cy)) n ≤ 200001 := by
    have p := dvr_part (i := (n - i)) (w := (ay - cy)) (n := n) (by omega) (by omega) (by omega)
    generalize dvr ((n - i) * (ay - cy)) n = q at *
    omega
  obtain ⟨hX0, hX1⟩ := hX
  obtain ⟨hY0, hY1⟩ := hY
  obtain ⟨m0, m1⟩ := mul_bd (a := (n - i)) (b := (ax - bx)) (A := 1000000) (B := 200002) (by omega) (by omega) (by omega) (by omega)
  obtain ⟨m2, m3⟩ := mul_bd (a := (n - i)) (b := (ay - cy)) (A := 1000000) (B := 200002) (by omega) (by omega) (by omega) (by omega)
  have wr1 : IntKind.i64.wrap ((n - i) * (ax - bx)) = (n - i) * (ax - bx) := IntWalk.i64_in _ ⟨by omega, by omega⟩
  have wr2 : IntKind.i64.wrap ((n - i) * (ay - cy)) = (n - i) * (ay - cy) := IntWalk.i64_in _ ⟨by omega, by omega⟩
  have wr3 : IntKind.i64.wrap (bx + dvr ((n - i) * (ax - bx)) n) = bx + dvr ((n - i) * (ax - bx)) n := IntWalk.i64_in _ ⟨by omega, by omega⟩
  have wr4 : IntKind.i64.wrap (cy + dvr ((n - i) * (ay - cy)) n) = cy + dvr ((n - i) * (ay - cy)) n := IntWalk.i64_in _ ⟨by omega, by omega⟩
  have wr5 : IntKind.i64.wrap (ax - bx) = (ax - bx) := IntWalk.i64_in _ ⟨by omega, by omega⟩
  have wr6 : IntKind.i64.wrap (ay - cy) = (ay - cy) := IntWalk.i64_in _ ⟨by omega, by omega⟩
  go_enter Tryz.func50, Tryz.ntmps50
  go_wp2_with (fail)
  go_region_held3 (fun w' => w'.cell? ⟨w.heap.size, 0, none⟩ = some (.int .i64 bx) ∧ w'.cell? ⟨w.heap.size, 1, none⟩ = some (.int .i64 cy) ∧ w'.cell? ⟨w.heap.size + 1, 0, none⟩ = some (.int .i64 ax) ∧ w'.cell? ⟨w.heap.size + 1, 1, none⟩ = some (.int .i64 ay))
    (first | assumption | (refine ⟨?_, ?_, ?_, ?_⟩ <;> (go_cell; done)))
    (first
      | (go_at_call 60; refine (sdiv_any _ _ _ (by omega) (by omega) (by omega) (by omega) (by omega)).mono ?_; rintro e w1 ⟨rfl, rfl⟩))
  go_wp2
  go_returns
  exact ⟨rfl, by go_grown⟩
end Go.Proofs.YthggoboljkdldabGreatDoor
namespace Go.Proofs.YthggoboljkdldabGreatDoor
open Go.ChangeShapes Go.WideShapes Go.ChangeAt Go.RowKit Pm

theorem sl02btw_any (ax ay bx cy i n : Int) (w : World) (ha : Vw ax ay) (hb : Vw bx cy) (hn : inB 1 1000000 [n] = true) (hi : inB 0 n [i] = true) :
    Calls Tryz.prog 50 #[.agg #[.int .i64 ax, .int .i64 ay], .agg #[.int .i64 bx, .int .i64 cy], .int .i64 i, .int .i64 n] w fun e w' => e = .returned (.agg #[.int .i64 (btwX ax ay bx cy i n), .int .i64 (btwY ax ay bx cy i n)]) ∧ Below w.heap.size w w' := by
  unfold btwX btwY
  by_cases ht : turnedB ax ay bx cy = true
  · rw [if_pos ht, if_pos ht]
    by_cases h1 : bx < ax
    · exact sbtw_t0 ax ay bx cy i n w ha hb hn hi h1
    · have h2 : ax = bx ∧ cy < ay := by simp [turnedB] at ht; omega
      exact sbtw_t1 ax ay bx cy i n w ha hb hn hi (by simp [h2.1]) h2.2 h1
  · rw [if_neg ht, if_neg ht]
    by_cases h1 : ax < bx
    · exact sbtw_s0 ax ay bx cy i n w ha hb hn hi h1 (by simp; omega)
    · have h2 : ax = bx ∧ ay ≤ cy := by simp [turnedB] at ht; omega
      exact sbtw_s1 ax ay bx cy i n w ha hb hn hi (by simp [h2.1]) h2.2 (by omega)

theorem btww_in {ax ay bx cy i n : Int} (ha : Vw ax ay) (hb : Vw bx cy) (hn : 0 < n) (h0 : 0 ≤ i) (h1 : i ≤ n) : ∃ X Y : Int, btwX ax ay bx cy i n = X ∧ btwY ax ay bx cy i n = Y ∧ (-1 ≤ X ∧ X ≤ 200001) ∧ (-1 ≤ Y ∧ Y ≤ 200001) := by
  obtain ⟨a0, a1, a2, a3⟩ := ha
  obtain ⟨b0, b1, b2, b3⟩ := hb
  have := btw_in (ax := ax) (ay := ay) (bx := bx) (cy := cy) hn h0 h1 (-1) 200001 a0 a1 a2 a3 b0 b1 b2 b3
  exact ⟨_, _, rfl, rfl, this.1, this.2⟩
end Go.Proofs.YthggoboljkdldabGreatDoor
