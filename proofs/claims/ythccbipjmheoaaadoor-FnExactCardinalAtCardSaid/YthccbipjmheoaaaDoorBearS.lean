/- Bearings, of the model. -/
import Derived.Test.YthccbipjmheoaaaDoorBearI
namespace Go.Proofs.YthccbipjmheoaaaDoor
open Go.ChangeShapes Go.WideShapes Go.ChangeAt Go.RowKit Pm

theorem keepId4 {w0 w : World} {a0 a1 a2 a3 : Addr} {v0 v1 v2 v3 : Value} (h : w.cell? a0 = some v0 ∧ w.cell? a1 = some v1 ∧ w.cell? a2 = some v2 ∧ w.cell? a3 = some v3 ∧ Below w0.heap.size w0 w) :
    w.cell? a0 = some v0 ∧ w.cell? a1 = some v1 ∧ w.cell? a2 = some v2 ∧ w.cell? a3 = some v3 ∧ Below w0.heap.size w0 w := h

set_option maxRecDepth 100000 in
set_option maxHeartbeats 4000000 in
theorem sl02bear_any (ax ay bx cy : Int) (w : World) (ha : Vd ax ay) (hb : Vd bx cy) :
    Calls Tryd.prog 36 #[.agg #[.int .i64 ax, .int .i64 ay], .agg #[.int .i64 bx, .int .i64 cy]] w fun e w' => ∃ r, Best (prog (bx - ax) (cy - ay)) 360 r ∧ e = .returned (.int .i64 r) ∧ Below w.heap.size w w' := by
  obtain ⟨p0, p1, p2, p3⟩ := ha
  obtain ⟨q0, q1, q2, q3⟩ := hb
  have B1 := Lib.hid (best_one (prog (bx - ax) (cy - ay)))
  go_enter Tryd.func36, Tryd.ntmps36
  go_wp2_with (go_at_call 57; refine (stable_any _).mono ?_; rintro e w1 ⟨rfl, hb1, hT⟩; have ac := Below.next (a := w) (by go_grown) hb1; have c0 := cell_below (a := ⟨w.heap.size, 0, none⟩) (v := .int .i64 ax) (by go_cell) hb1; have c1 := cell_below (a := ⟨w.heap.size, 1, none⟩) (v := .int .i64 ay) (by go_cell) hb1; have c2 := cell_below (a := ⟨w.heap.size + 1, 0, none⟩) (v := .int .i64 bx) (by go_cell) hb1; have c3 := cell_below (a := ⟨w.heap.size + 1, 1, none⟩) (v := .int .i64 cy) (by go_cell) hb1; clear hb1)
  have HT0 : TabAt w1 (w.heap.size + 1 + 1) := by simpa using hT
  have HT1 := Lib.hid HT0
  have HC := Lib.hid (show w1.cell? ⟨w.heap.size, 0, none⟩ = some (.int .i64 ax) ∧ w1.cell? ⟨w.heap.size, 1, none⟩ = some (.int .i64 ay) ∧ w1.cell? ⟨w.heap.size + 1, 0, none⟩ = some (.int .i64 bx) ∧ w1.cell? ⟨w.heap.size + 1, 1, none⟩ = some (.int .i64 cy) ∧ Below w.heap.size w w1 from ⟨c0, c1, c2, c3, ac⟩)
  clear hT HT0 c0 c1 c2 c3 ac
  go_loopw [5, 6, 8] (fun b mo d wr => ∃ (k : Nat) (r m : Int), k ≤ 360 ∧ d = .int .i64 k ∧ b = .int .i64 r ∧ mo = .int .i64 m ∧ ((k = 0 ∧ r = 0 ∧ m = 0) ∨ (0 < k ∧ Best (prog (bx - ax) (cy - ay)) k r ∧ m = prog (bx - ax) (cy - ay) r)) ∧ (wr.cell? ⟨w.heap.size, 0, none⟩ = some (.int .i64 ax) ∧ wr.cell? ⟨w.heap.size, 1, none⟩ = some (.int .i64 ay) ∧ wr.cell? ⟨w.heap.size + 1, 0, none⟩ = some (.int .i64 bx) ∧ wr.cell? ⟨w.heap.size + 1, 1, none⟩ = some (.int .i64 cy) ∧ Below w.heap.size w wr) ∧ TabAt wr (w.heap.size + 1 + 1)) (fun _ _ d _ => 360 - (intOf d).toNat)
  case atStart => exact ⟨0, 0, 0, by omega, rfl, rfl, rfl, .inl ⟨rfl, rfl, rfl⟩, HC.out, HT1.out⟩
  case round =>
    obtain ⟨k, r, m, hk, rfl, rfl, rfl, hP, hcells, hT⟩ := hrel
    have HT := Lib.hid hT
    have HP := Lib.hid hP
    clear hT hP HC HT1
    by_cases hlt : k < 360
    · obtain ⟨s0, s1⟩ := sin_bd (k : Int)
      obtain ⟨s2, s3⟩ := sin_bd ((k : Int) + 90)
      obtain ⟨m0, m1⟩ := mul_bd (a := bx - ax) (b := sinR k) (A := 200000) (B := 1000000) (by omega) (by omega) s0 s1
      obtain ⟨m2, m3⟩ := mul_bd (a := cy - ay) (b := sinR (k + 90)) (A := 200000) (B := 1000000) (by omega) (by omega) s2 s3
      have wr1 : IntKind.i64.wrap ((k : Int) + 90) = (k : Int) + 90 := IntWalk.i64_in _ ⟨by omega, by omega⟩
      have wr2 : IntKind.i64.wrap (bx - ax) = bx - ax := IntWalk.i64_in _ ⟨by omega, by omega⟩
      have wr3 : IntKind.i64.wrap (cy - ay) = cy - ay := IntWalk.i64_in _ ⟨by omega, by omega⟩
      have wr4 : IntKind.i64.wrap ((bx - ax) * sinR k) = (bx - ax) * sinR k := IntWalk.i64_in _ ⟨by omega, by omega⟩
      have wr5 : IntKind.i64.wrap ((cy - ay) * sinR (k + 90)) = (cy - ay) * sinR (k + 90) := IntWalk.i64_in _ ⟨by omega, by omega⟩
      have wr6 : IntKind.i64.wrap ((bx - ax) * sinR k + (cy - ay) * sinR (k + 90)) = (bx - ax) * sinR k + (cy - ay) * sinR (k + 90) := IntWalk.i64_in _ ⟨by omega, by omega⟩
      by_cases hk0 : k = 0
      · have HN := Lib.hid (show Best (prog (bx - ax) (cy - ay)) ((k + 1 : Nat) : Int) 0 ∧ (bx - ax) * sinR k + (cy - ay) * sinR (k + 90) = prog (bx - ax) (cy - ay) 0 from by subst hk0; exact ⟨B1.out, rfl⟩)
        have hkz : ((k : Int) == 0) = true := by simp [hk0]
        have HK0 := Lib.hid hk0
        clear hk0 s0 s1 s2 s3 m0 m1 m2 m3 p0 p1 p2 p3 q0 q1 q2 q3
        go_wp2_with (fail)
        go_region_held3 (fun w' => w'.cell? ⟨w.heap.size, 0, none⟩ = some (.int .i64 ax) ∧ w'.cell? ⟨w.heap.size, 1, none⟩ = some (.int .i64 ay) ∧ w'.cell? ⟨w.heap.size + 1, 0, none⟩ = some (.int .i64 bx) ∧ w'.cell? ⟨w.heap.size + 1, 1, none⟩ = some (.int .i64 cy) ∧ Below w.heap.size w w')
          (first | assumption | exact keep4 (by assumption) (by assumption) | exact drew4 (by assumption) | exact ⟨by go_cell, by go_cell, by go_cell, by go_cell, by go_grown⟩)
          (first
            | (go_at_call 58; refine (ssinein_any _ _ _ (by exact HT.out)).mono ?_; rintro e w2 ⟨rfl, rfl⟩))
        go_wp2
        go_roundw
        case rel => exact ⟨k + 1, 0, _, by omega, by go_num, ret_v (by have := HK0.out; omega), rfl, .inr ⟨by omega, HN.out⟩, keepId4 (by assumption), HT.out⟩
        case measure => simp [intOf]; omega
      · have hkz : ((k : Int) == 0) = false := by simp; omega
        have hB : Best (prog (bx - ax) (cy - ay)) k r ∧ m = prog (bx - ax) (cy - ay) r := by
          rcases HP.out with h | h
          · omega
          · exact h.2
        by_cases hg : m < (bx - ax) * sinR k + (cy - ay) * sinR (k + 90)
        · have HN := Lib.hid (show Best (prog (bx - ax) (cy - ay)) ((k + 1 : Nat) : Int) k ∧ (bx - ax) * sinR k + (cy - ay) * sinR (k + 90) = prog (bx - ax) (cy - ay) k from ⟨best_up (by omega) hB.1 (by rw [← hB.2]; exact hg), rfl⟩)
          clear hB hk0 s0 s1 s2 s3 m0 m1 m2 m3 p0 p1 p2 p3 q0 q1 q2 q3
          go_wp2_with (fail)
          go_region_held3 (fun w' => w'.cell? ⟨w.heap.size, 0, none⟩ = some (.int .i64 ax) ∧ w'.cell? ⟨w.heap.size, 1, none⟩ = some (.int .i64 ay) ∧ w'.cell? ⟨w.heap.size + 1, 0, none⟩ = some (.int .i64 bx) ∧ w'.cell? ⟨w.heap.size + 1, 1, none⟩ = some (.int .i64 cy) ∧ Below w.heap.size w w')
            (first | assumption | exact keep4 (by assumption) (by assumption) | exact drew4 (by assumption) | exact ⟨by go_cell, by go_cell, by go_cell, by go_cell, by go_grown⟩)
            (first
              | (go_at_call 58; refine (ssinein_any _ _ _ (by exact HT.out)).mono ?_; rintro e w2 ⟨rfl, rfl⟩))
          go_wp2
          go_roundw
          case rel => exact ⟨k + 1, k, _, by omega, by go_num, rfl, rfl, .inr ⟨by omega, HN.out⟩, keepId4 (by assumption), HT.out⟩
          case measure => simp [intOf]; omega
        · have HN := Lib.hid (show Best (prog (bx - ax) (cy - ay)) ((k + 1 : Nat) : Int) r ∧ m = prog (bx - ax) (cy - ay) r from ⟨best_stay hB.1 (by rw [← hB.2]; exact hg), hB.2⟩)
          clear hB hk0 s0 s1 s2 s3 m0 m1 m2 m3 p0 p1 p2 p3 q0 q1 q2 q3
          go_wp2_with (fail)
          go_region_held3 (fun w' => w'.cell? ⟨w.heap.size, 0, none⟩ = some (.int .i64 ax) ∧ w'.cell? ⟨w.heap.size, 1, none⟩ = some (.int .i64 ay) ∧ w'.cell? ⟨w.heap.size + 1, 0, none⟩ = some (.int .i64 bx) ∧ w'.cell? ⟨w.heap.size + 1, 1, none⟩ = some (.int .i64 cy) ∧ Below w.heap.size w w')
            (first | assumption | exact keep4 (by assumption) (by assumption) | exact drew4 (by assumption) | exact ⟨by go_cell, by go_cell, by go_cell, by go_cell, by go_grown⟩)
            (first
              | (go_at_call 58; refine (ssinein_any _ _ _ (by exact HT.out)).mono ?_; rintro e w2 ⟨rfl, rfl⟩))
          go_wp2
          go_roundw
          case rel => exact ⟨k + 1, r, _, by omega, by go_num, rfl, rfl, .inr ⟨by omega, HN.out⟩, keepId4 (by assumption), HT.out⟩
          case measure => simp [intOf]; omega
    · obtain rfl : k = 360 := by omega
      have hB : Best (prog (bx - ax) (cy - ay)) 360 r := by
        rcases HP.out with h | h
        · omega
        · exact h.2.1
      have HB := Lib.hid hB
      have HCE := Lib.hid hcells.2.2.2.2
      clear hB hcells
      go_wp2
      go_ret
      exact ⟨r, HB.out, rfl, HCE.out⟩
end Go.Proofs.YthccbipjmheoaaaDoor
