/- The law of DistanceToSegment. -/
import Derived.Test.YtochniaofmeheaaGapS
import Derived.Deep.RegionHeld3
namespace Go.Proofs.Ytochniaofmeheaa
open Go.ChangeShapes Go.WideShapes Go.ChangeAt Go.RowKit Pm

theorem distancetosegment_law (ax ay bx cy px py : Int) (w : World) :
    Calls Try.prog 8 #[.agg #[.int .i64 ax, .int .i64 ay], .agg #[.int .i64 bx, .int .i64 cy], .agg #[.int .i64 px, .int .i64 py]] w fun e w' => e = .returned (.bool true) ∧ Below w.heap.size w w' := by
  go_enter Try.func8, Try.ntmps8
  go_wp2_with (fail)
  go_region_held3 (fun w' => w'.cell? ⟨w.heap.size, 0, none⟩ = some (.int .i64 ax) ∧ w'.cell? ⟨w.heap.size, 1, none⟩ = some (.int .i64 ay) ∧ w'.cell? ⟨w.heap.size + 1, 0, none⟩ = some (.int .i64 bx) ∧ w'.cell? ⟨w.heap.size + 1, 1, none⟩ = some (.int .i64 cy) ∧ w'.cell? ⟨w.heap.size + 1 + 1, 0, none⟩ = some (.int .i64 px) ∧ w'.cell? ⟨w.heap.size + 1 + 1, 1, none⟩ = some (.int .i64 py) ∧ Below w.heap.size w w')
    (first | assumption | exact keep6 (by assumption) (by assumption) | exact drew6 (by assumption) | exact ⟨by go_cell, by go_cell, by go_cell, by go_cell, by go_cell, by go_cell, by go_grown⟩)
    (first
      | (go_at_call 10; refine (topoint_any _ _ _).mono ?_; rintro e w1 ⟨rfl, hb⟩)
      | (go_at_call 21; refine (sgap_any _ _ _ _ _ _ _).mono ?_; rintro e w1 ⟨r, hr, rfl, hb⟩))
  go_wp2_with (fail)
  go_region_held3 (fun w' => w'.cell? ⟨w.heap.size, 0, none⟩ = some (.int .i64 ax) ∧ w'.cell? ⟨w.heap.size, 1, none⟩ = some (.int .i64 ay) ∧ w'.cell? ⟨w.heap.size + 1, 0, none⟩ = some (.int .i64 bx) ∧ w'.cell? ⟨w.heap.size + 1, 1, none⟩ = some (.int .i64 cy) ∧ w'.cell? ⟨w.heap.size + 1 + 1, 0, none⟩ = some (.int .i64 px) ∧ w'.cell? ⟨w.heap.size + 1 + 1, 1, none⟩ = some (.int .i64 py) ∧ Below w.heap.size w w')
    (first | assumption | exact keep6 (by assumption) (by assumption) | exact drew6 (by assumption) | exact ⟨by go_cell, by go_cell, by go_cell, by go_cell, by go_cell, by go_cell, by go_grown⟩)
    (first
      | (go_at_call 10; refine (topoint_any _ _ _).mono ?_; rintro e w1 ⟨rfl, hb⟩)
      | (go_at_call 22; refine (gap_any _ _ _ _ _ _ _).mono ?_; rintro e w1 ⟨s, hs, rfl, hb⟩; obtain rfl := hs.one hr))
  go_wp2
  go_ret
  exact ⟨rfl, keepB6 (by assumption)⟩
end Go.Proofs.Ytochniaofmeheaa
