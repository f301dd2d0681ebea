/- Distances, of the model. -/
import Derived.Test.YthccbipjmheoaaaDist
namespace Go.Proofs.Ythccbipjmheoaaa
open Go.ChangeShapes Go.WideShapes Go.ChangeAt Go.RowKit Pm

theorem sapart_any (ax ay bx cy : Int) (w : World) (ha : Vd ax ay) (hb : Vd bx cy) :
    Calls Try.prog 66 #[.agg #[.int .i64 ax, .int .i64 ay], .agg #[.int .i64 bx, .int .i64 cy]] w fun e w' => ∃ r, Root (sqd ax ay bx cy) r ∧ e = .returned (.int .i64 r) ∧ Below w.heap.size w w' := by
  have HS := Lib.hid (sqd_bd ha hb)
  have HA := Lib.hid ha
  have HB := Lib.hid hb
  clear ha hb
  go_enter Try.func66, Try.ntmps66
  go_wp2_with (first
    | (go_at_call 98; refine (ssquare_any _ _ _ _ _ HA.out HB.out).mono ?_; rintro e w1 ⟨rfl, hb⟩; have ac := Below.next (a := w) (by go_grown) hb; clear hb)
    | (go_at_call 97; refine (sroot_any _ _ (Int.le_trans HS.out (by decide))).mono ?_; rintro e w1 ⟨r, hr, rfl, rfl⟩))
  go_ret
  exact ⟨r, hr, rfl, by go_grown⟩

end Go.Proofs.Ythccbipjmheoaaa
