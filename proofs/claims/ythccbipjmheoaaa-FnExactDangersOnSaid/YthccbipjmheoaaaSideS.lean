/- Sides of a line, of the model. -/
import Derived.Test.YthccbipjmheoaaaSide
namespace Go.Proofs.Ythccbipjmheoaaa
open Go.ChangeShapes Go.WideShapes Go.ChangeAt Go.RowKit Pm

theorem scross_any (ax ay bx cy px py : Int) (w : World) (hc : allOk3 ax ay bx cy px py = true) :
    Calls Try.prog 104 #[.agg #[.int .i64 ax, .int .i64 ay], .agg #[.int .i64 bx, .int .i64 cy], .agg #[.int .i64 px, .int .i64 py]] w fun e w' => e = .returned (.int .i64 (crossOf ax ay bx cy px py)) ∧ Below w.heap.size w w' := by
  obtain ⟨⟨a0, a1, a2, a3⟩, ⟨b0, b1, b2, b3⟩, ⟨p0, p1, p2, p3⟩⟩ := vd3 hc
  have h1 := mul_bd (a := bx - ax) (b := py - ay) (A := 200000) (B := 200000) (by omega) (by omega) (by omega) (by omega)
  have h2 := mul_bd (a := cy - ay) (b := px - ax) (A := 200000) (B := 200000) (by omega) (by omega) (by omega) (by omega)
  have HX := Lib.hid (show (bx - ax) * (py - ay) - (cy - ay) * (px - ax) = crossOf ax ay bx cy px py from rfl)
  clear hc
  go_enter Try.func104, Try.ntmps104
  go_wp2
  go_ret
  exact ⟨ret_i HX.out, by go_grown⟩

theorem sside_any (ax ay bx cy px py : Int) (w : World) (hc : allOk3 ax ay bx cy px py = true) :
    Calls Try.prog 89 #[.agg #[.int .i64 ax, .int .i64 ay], .agg #[.int .i64 bx, .int .i64 cy], .agg #[.int .i64 px, .int .i64 py]] w fun e w' => e = .returned (.int .i64 (sideR ax ay bx cy px py)) ∧ Below w.heap.size w w' := by
  have hv : sideR ax ay bx cy px py = sgn (crossOf ax ay bx cy px py) := by unfold sideR; rw [if_pos hc]
  have HC := Lib.hid (fun w => scross_any ax ay bx cy px py w hc)
  clear hc
  generalize crossOf ax ay bx cy px py = x at *
  have HV := Lib.hid hv
  clear hv
  by_cases h1 : 0 < x
  · have hs := Lib.hid (show sgn x = 1 by unfold sgn; rw [if_pos h1])
    go_enter Try.func89, Try.ntmps89
    go_wp2_with (first
      | (go_at_call 104; refine (HC.out _).mono ?_; rintro e w1 ⟨rfl, hb⟩; have ac := Below.next (a := w) (by go_grown) hb; have az := ac.size; clear hb))
    go_ret
    exact ⟨ret_i (HV.out.trans hs.out).symm, by go_grown⟩
  · by_cases h2 : x < 0
    · have hs := Lib.hid (show sgn x = -1 by unfold sgn; rw [if_neg h1, if_pos h2])
      go_enter Try.func89, Try.ntmps89
      go_wp2_with (first
        | (go_at_call 104; refine (HC.out _).mono ?_; rintro e w1 ⟨rfl, hb⟩; have ac := Below.next (a := w) (by go_grown) hb; have az := ac.size; clear hb))
      go_ret
      exact ⟨ret_i (HV.out.trans hs.out).symm, by go_grown⟩
    · have hs := Lib.hid (show sgn x = 0 by unfold sgn; rw [if_neg h1, if_neg h2])
      go_enter Try.func89, Try.ntmps89
      go_wp2_with (first
        | (go_at_call 104; refine (HC.out _).mono ?_; rintro e w1 ⟨rfl, hb⟩; have ac := Below.next (a := w) (by go_grown) hb; have az := ac.size; clear hb))
      go_ret
      exact ⟨ret_i (HV.out.trans hs.out).symm, by go_grown⟩

end Go.Proofs.Ythccbipjmheoaaa
