/- Points between two ends, of the model: a case. -/
import Derived.Test.YtcoldhdghcdaeaaBtwK
import Derived.Test.YtcoldhdghcdaeaaDivS
namespace Go.Proofs.Ytcoldhdghcdaeaa
open Go.ChangeShapes Go.WideShapes Go.ChangeAt Go.RowKit Pm

set_option maxHeartbeats 4000000 in
theorem sbtw_s1 (ax ay bx cy i n : Int) (w : World) (ha : Vd ax ay) (hb' : Vd bx cy) (hn : inB 1 1000000 [n] = true) (hi : inB 0 n [i] = true)
    (h2 : (ax == bx) = true) (h3 : ay ≤ cy) (h4 : ¬ bx < ax) :
    Calls Try.prog 84 #[.agg #[.int .i64 ax, .int .i64 ay], .agg #[.int .i64 bx, .int .i64 cy], .int .i64 i, .int .i64 n] w fun e w' => e = .returned (.agg #[.int .i64 (ax + dvr (i * (bx - ax)) n), .int .i64 (ay + dvr (i * (cy - ay)) n)]) ∧ Below w.heap.size w w' := by
  obtain ⟨n0, n1⟩ : 1 ≤ n ∧ n ≤ 1000000 := by simpa [inB] using hn
  obtain ⟨i0, i1⟩ : 0 ≤ i ∧ i ≤ n := by simpa [inB] using hi
  obtain ⟨a0, a1, a2, a3⟩ := ha
  obtain ⟨b0, b1, b2, b3⟩ := hb'
  have hX : 0 ≤ ax + dvr (i * (bx - ax)) n ∧ ax + dvr (i * (bx - ax)) n ≤ 200000 := by
    have p := dvr_part (i := i) (w := (bx - ax)) (n := n) (by omega) (by omega) (by omega)
    generalize dvr (i * (bx - ax)) n = q at *
    omega
  have hY : 0 ≤ ay + dvr (i * (cy - ay)) n ∧ ay + dvr (i * (cy - ay)) n ≤ 200000 := by
    have p := dvr_part (i := i) (w := (cy - ay)) (n := n) (by omega) (by omega) (by omega)
    generalize dvr (i * (cy - ay)) n = q at *
    omega
  obtain ⟨hX0, hX1⟩ := hX
  obtain ⟨hY0, hY1⟩ := hY
  obtain ⟨m0, m1⟩ := mul_bd (a := i) (b := (bx - ax)) (A := 1000000) (B := 200000) (by omega) (by omega) (by omega) (by omega)
  obtain ⟨m2, m3⟩ := mul_bd (a := i) (b := (cy - ay)) (A := 1000000) (B := 200000) (by omega) (by omega) (by omega) (by omega)
  have wr1 : IntKind.i64.wrap (i * (bx - ax)) = i * (bx - ax) := IntWalk.i64_in _ ⟨by omega, by omega⟩
  have wr2 : IntKind.i64.wrap (i * (cy - ay)) = i * (cy - ay) := IntWalk.i64_in _ ⟨by omega, by omega⟩
  have wr3 : IntKind.i64.wrap (ax + dvr (i * (bx - ax)) n) = ax + dvr (i * (bx - ax)) n := IntWalk.i64_in _ ⟨by omega, by omega⟩
  have wr4 : IntKind.i64.wrap (ay + dvr (i * (cy - ay)) n) = ay + dvr (i * (cy - ay)) n := IntWalk.i64_in _ ⟨by omega, by omega⟩
  have wr5 : IntKind.i64.wrap (bx - ax) = (bx - ax) := IntWalk.i64_in _ ⟨by omega, by omega⟩
  have wr6 : IntKind.i64.wrap (cy - ay) = (cy - ay) := IntWalk.i64_in _ ⟨by omega, by omega⟩
  go_enter Try.func84, Try.ntmps84
  go_wp2_with (fail)
  go_region_held3 (fun w' => w'.cell? ⟨w.heap.size, 0, none⟩ = some (.int .i64 ax) ∧ w'.cell? ⟨w.heap.size, 1, none⟩ = some (.int .i64 ay) ∧ w'.cell? ⟨w.heap.size + 1, 0, none⟩ = some (.int .i64 bx) ∧ w'.cell? ⟨w.heap.size + 1, 1, none⟩ = some (.int .i64 cy))
    (first | assumption | (refine ⟨?_, ?_, ?_, ?_⟩ <;> (go_cell; done)))
    (first
      | (go_at_call 105; refine (sdiv_any _ _ _ (by omega) (by omega) (by omega) (by omega) (by omega)).mono ?_; rintro e w1 ⟨rfl, rfl⟩))
  go_wp2
  go_returns
  exact ⟨rfl, by go_grown⟩
end Go.Proofs.Ytcoldhdghcdaeaa
