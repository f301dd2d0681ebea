/- The place along a channel: the program's. -/
import Derived.Test.YtcoldhdghcdaeaaSgaI
import Derived.Test.YtcoldhdghcdaeaaLenS
import Derived.Test.YtcoldhdghcdaeaaBtwA
namespace Go.Proofs.Ytcoldhdghcdaeaa
open Go.ChangeShapes Go.WideShapes Go.ChangeAt Go.RowKit Pm

set_option maxHeartbeats 1000000 in
theorem place_any (a b c e x y d r : Int) (hr : wrap64 (d - x) = r) (w : World) :
    Calls Try.prog 53 #[.agg #[.int .i64 a, .int .i64 b, .int .i64 c, .int .i64 e, .int .i64 x, .int .i64 y], .int .i64 d] w fun en w' => en = .returned (.agg #[.int .i64 (btwPX a b c e r y), .int .i64 (btwPY a b c e r y)]) ∧ Below w.heap.size w w' := by
  have HB := Lib.hid (fun w' => between_any a b c e r y w')
  generalize btwPX a b c e r y = X at *
  generalize btwPY a b c e r y = Y at *
  generalize btwE a b c e r y = E at *
  go_enter Try.func53, Try.ntmps53
  go_wp2_with (go_at_call 86; (with_reducible refine (HB.out _).mono ?_); rintro en w1 ⟨rfl, hb⟩; have r0 := cell_below (a := ⟨w.heap.size + 1, 0, none⟩) (v := .int .i64 0) (by go_cell) hb; have r1 := cell_below (a := ⟨w.heap.size + 1, 1, none⟩) (v := .int .i64 0) (by go_cell) hb; have f0 : w1.frozen? ⟨w.heap.size + 1, 0, none⟩ = false := (by rw [hb.frozen (by simp)]; go_simp); have f1 : w1.frozen? ⟨w.heap.size + 1, 1, none⟩ = false := (by rw [hb.frozen (by simp)]; go_simp); have hsz : w.heap.size + 1 < w1.heap.size := (by have h := hb.size; simp at h; omega); have AC := Lib.hid (Below.next (a := w) (by go_grown) hb); clear hb)
  refine bodyPost_ret (v := .agg #[.int .i64 X, .int .i64 Y]) (by simp [results, Try.results53, go_sem, *]) rfl ⟨rfl, ?_⟩
  refine Below.alloc ?_ (by have h := AC.out.size; simp at h ⊢; omega) _
  repeat (refine Below.setCell ?_ (Nat.le_succ _) _)
  exact AC.out
end Go.Proofs.Ytcoldhdghcdaeaa
