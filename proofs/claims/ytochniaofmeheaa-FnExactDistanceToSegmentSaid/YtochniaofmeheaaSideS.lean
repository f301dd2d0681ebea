/- Sides of a line, of the model. -/
import Derived.Test.YtochniaofmeheaaSide
namespace Go.Proofs.Ytochniaofmeheaa
open Go.ChangeShapes Go.WideShapes Go.ChangeAt Go.RowKit Pm

theorem scross_any (ax ay bx cy px py : Int) (w : World) (hc : allOk3 ax ay bx cy px py = true) :
    Calls Try.prog 49 #[.agg #[.int .i64 ax, .int .i64 ay], .agg #[.int .i64 bx, .int .i64 cy], .agg #[.int .i64 px, .int .i64 py]] w fun e w' => e = .returned (.int .i64 (crossOf ax ay bx cy px py)) ∧ Below w.heap.size w w' := by
  obtain ⟨⟨a0, a1, a2, a3⟩, ⟨b0, b1, b2, b3⟩, ⟨p0, p1, p2, p3⟩⟩ := vd3 hc
  have h1 := mul_bd (a := bx - ax) (b := py - ay) (A := 200000) (B := 200000) (by omega) (by omega) (by omega) (by omega)
  have h2 := mul_bd (a := cy - ay) (b := px - ax) (A := 200000) (B := 200000) (by omega) (by omega) (by omega) (by omega)
  have HX := Lib.hid (show (bx - ax) * (py - ay) - (cy - ay) * (px - ax) = crossOf ax ay bx cy px py from rfl)
  clear hc
  go_enter Try.func49, Try.ntmps49
  go_wp2
  go_ret
  exact ⟨ret_i HX.out, by go_grown⟩

theorem sside_any (ax ay bx cy px py : Int) (w : World) (hc : allOk3 ax ay bx cy px py = true) :
    Calls Try.prog 33 #[.agg #[.int .i64 ax, .int .i64 ay], .agg #[.int .i64 bx, .int .i64 cy], .agg #[.int .i64 px, .int .i64 py]] w fun e w' => e = .returned (.int .i64 (sideR ax ay bx cy px py)) ∧ Below w.heap.size w w' := by
  have hv : sideR ax ay bx cy px py = sgn (crossOf ax ay bx cy px py) := by unfold sideR; rw [if_pos hc]
  have HC := Lib.hid (fun w => scross_any ax ay bx cy px py w hc)
  clear hc
  generalize crossOf ax ay bx cy px py = x at *
  have HV := Lib.hid hv
  clear hv
  by_cases h1 : 0 < x
  · have hs := Lib.hid (show sgn x = 1 by unfold sgn; rw [if_pos h1])
    go_enter Try.func33, Try.ntmps33
    go_wp2_with (first
      | (go_at_call 49; refine (HC.out _).mono ?_; rintro e w1 ⟨rfl, hb⟩; have ac := Below.next (a := w) (by go_grown) hb; have az := ac.size; clear hb))
    go_ret
    exact ⟨ret_i (HV.out.trans hs.out).symm, by go_grown⟩
  · by_cases h2 : x < 0
    · have hs := Lib.hid (show sgn x = -1 by unfold sgn; rw [if_neg h1, if_pos h2])
      go_enter Try.func33, Try.ntmps33
      go_wp2_with (first
        | (go_at_call 49; refine (HC.out _).mono ?_; rintro e w1 ⟨rfl, hb⟩; have ac := Below.next (a := w) (by go_grown) hb; have az := ac.size; clear hb))
      go_ret
      exact ⟨ret_i (HV.out.trans hs.out).symm, by go_grown⟩
    · have hs := Lib.hid (show sgn x = 0 by unfold sgn; rw [if_neg h1, if_neg h2])
      go_enter Try.func33, Try.ntmps33
      go_wp2_with (first
        | (go_at_call 49; refine (HC.out _).mono ?_; rintro e w1 ⟨rfl, hb⟩; have ac := Below.next (a := w) (by go_grown) hb; have az := ac.size; clear hb))
      go_ret
      exact ⟨ret_i (HV.out.trans hs.out).symm, by go_grown⟩

theorem ssideof_any (ax ay bx cy px py : Int) (w : World) :
    Calls Try.prog 16 #[.agg #[.int .i64 ax, .int .i64 ay], .agg #[.int .i64 bx, .int .i64 cy], .agg #[.int .i64 px, .int .i64 py]] w fun e w' => e = .returned (.int .i64 (sideR ax ay bx cy px py)) ∧ Below w.heap.size w w' := by
  by_cases hc : allOk3 ax ay bx cy px py = true
  · have HC := Lib.hid (fun w => sside_any ax ay bx cy px py w hc)
    have h1 : inB 0 200000 [ax, ay] = true := of_vd (vd3 hc).1
    have h2 : inB 0 200000 [bx, cy] = true := of_vd (vd3 hc).2.1
    have h3 : inB 0 200000 [px, py] = true := of_vd (vd3 hc).2.2
    clear hc
    go_enter Try.func16, Try.ntmps16
    go_wp2_with (first
      | (go_at_call 23; refine (sok_any _ _ _).mono ?_; rintro e w1 ⟨rfl, hb⟩; have ac := Below.next (a := w) (by go_grown) hb; have az := ac.size; have c0 := cell_below (a := ⟨w.heap.size, 0, none⟩) (v := .int .i64 ax) (by go_cell) hb; have c1 := cell_below (a := ⟨w.heap.size, 1, none⟩) (v := .int .i64 ay) (by go_cell) hb; have c2 := cell_below (a := ⟨w.heap.size + 1, 0, none⟩) (v := .int .i64 bx) (by go_cell) hb; have c3 := cell_below (a := ⟨w.heap.size + 1, 1, none⟩) (v := .int .i64 cy) (by go_cell) hb; have c4 := cell_below (a := ⟨w.heap.size + 1 + 1, 0, none⟩) (v := .int .i64 px) (by go_cell) hb; have c5 := cell_below (a := ⟨w.heap.size + 1 + 1, 1, none⟩) (v := .int .i64 py) (by go_cell) hb; clear hb)
      | (go_at_call 33; refine (HC.out _).mono ?_; rintro e w1 ⟨rfl, hb⟩; have ac := Below.next (a := w) (by go_grown) hb; have az := ac.size; clear hb))
    go_ret
    exact ⟨rfl, by go_grown⟩
  · have hv := Lib.hid (show sideR ax ay bx cy px py = 0 by unfold sideR; rw [if_neg hc])
    have hf : (inB 0 200000 [ax, ay] && (inB 0 200000 [bx, cy] && inB 0 200000 [px, py])) = false := by simpa [allOk3, okB] using hc
    clear hc
    cases h1 : inB 0 200000 [ax, ay]
    · clear hf
      go_enter Try.func16, Try.ntmps16
      go_wp2_with (first
        | (go_at_call 23; refine (sok_any _ _ _).mono ?_; rintro e w1 ⟨rfl, hb⟩; have ac := Below.next (a := w) (by go_grown) hb; have az := ac.size; have c0 := cell_below (a := ⟨w.heap.size, 0, none⟩) (v := .int .i64 ax) (by go_cell) hb; have c1 := cell_below (a := ⟨w.heap.size, 1, none⟩) (v := .int .i64 ay) (by go_cell) hb; have c2 := cell_below (a := ⟨w.heap.size + 1, 0, none⟩) (v := .int .i64 bx) (by go_cell) hb; have c3 := cell_below (a := ⟨w.heap.size + 1, 1, none⟩) (v := .int .i64 cy) (by go_cell) hb; have c4 := cell_below (a := ⟨w.heap.size + 1 + 1, 0, none⟩) (v := .int .i64 px) (by go_cell) hb; have c5 := cell_below (a := ⟨w.heap.size + 1 + 1, 1, none⟩) (v := .int .i64 py) (by go_cell) hb; clear hb))
      go_ret
      exact ⟨ret_i hv.out.symm, by go_grown⟩
    · cases h2 : inB 0 200000 [bx, cy]
      · clear hf
        go_enter Try.func16, Try.ntmps16
        go_wp2_with (first
          | (go_at_call 23; refine (sok_any _ _ _).mono ?_; rintro e w1 ⟨rfl, hb⟩; have ac := Below.next (a := w) (by go_grown) hb; have az := ac.size; have c0 := cell_below (a := ⟨w.heap.size, 0, none⟩) (v := .int .i64 ax) (by go_cell) hb; have c1 := cell_below (a := ⟨w.heap.size, 1, none⟩) (v := .int .i64 ay) (by go_cell) hb; have c2 := cell_below (a := ⟨w.heap.size + 1, 0, none⟩) (v := .int .i64 bx) (by go_cell) hb; have c3 := cell_below (a := ⟨w.heap.size + 1, 1, none⟩) (v := .int .i64 cy) (by go_cell) hb; have c4 := cell_below (a := ⟨w.heap.size + 1 + 1, 0, none⟩) (v := .int .i64 px) (by go_cell) hb; have c5 := cell_below (a := ⟨w.heap.size + 1 + 1, 1, none⟩) (v := .int .i64 py) (by go_cell) hb; clear hb))
        go_ret
        exact ⟨ret_i hv.out.symm, by go_grown⟩
      · have h3 : inB 0 200000 [px, py] = false := by rw [h1, h2] at hf; simpa using hf
        clear hf
        go_enter Try.func16, Try.ntmps16
        go_wp2_with (first
          | (go_at_call 23; refine (sok_any _ _ _).mono ?_; rintro e w1 ⟨rfl, hb⟩; have ac := Below.next (a := w) (by go_grown) hb; have az := ac.size; have c0 := cell_below (a := ⟨w.heap.size, 0, none⟩) (v := .int .i64 ax) (by go_cell) hb; have c1 := cell_below (a := ⟨w.heap.size, 1, none⟩) (v := .int .i64 ay) (by go_cell) hb; have c2 := cell_below (a := ⟨w.heap.size + 1, 0, none⟩) (v := .int .i64 bx) (by go_cell) hb; have c3 := cell_below (a := ⟨w.heap.size + 1, 1, none⟩) (v := .int .i64 cy) (by go_cell) hb; have c4 := cell_below (a := ⟨w.heap.size + 1 + 1, 0, none⟩) (v := .int .i64 px) (by go_cell) hb; have c5 := cell_below (a := ⟨w.heap.size + 1 + 1, 1, none⟩) (v := .int .i64 py) (by go_cell) hb; clear hb))
        go_ret
        exact ⟨ret_i hv.out.symm, by go_grown⟩
end Go.Proofs.Ytochniaofmeheaa
