/- The law of Bearing. -/
import Derived.Test.YtochniaofmeheaaDoorBearA
import Derived.Deep.RegionHeld3
namespace Go.Proofs.YtochniaofmeheaaDoor
open Go.ChangeShapes Go.WideShapes Go.ChangeAt Go.RowKit Pm

theorem bearing_law (ax ay bx cy : Int) (w : World) (hL : laidMetH Tryd.prog Rows.fnExactBearingRow.laid w) :
    Calls Tryd.prog 6 #[.agg #[.int .i64 ax, .int .i64 ay], .agg #[.int .i64 bx, .int .i64 cy]] w fun e w' => e = .returned (.bool true) ∧ Below w.heap.size w w' := by
  have HS := Lib.hid (sines_of hL)
  clear hL
  go_enter Tryd.func6, Tryd.ntmps6
  go_wp2_with (fail)
  go_region_held3 (fun w' => w'.cell? ⟨w.heap.size, 0, none⟩ = some (.int .i64 ax) ∧ w'.cell? ⟨w.heap.size, 1, none⟩ = some (.int .i64 ay) ∧ w'.cell? ⟨w.heap.size + 1, 0, none⟩ = some (.int .i64 bx) ∧ w'.cell? ⟨w.heap.size + 1, 1, none⟩ = some (.int .i64 cy) ∧ Below w.heap.size w w')
    (first | assumption | exact keep4 (by assumption) (by assumption) | exact drew4 (by assumption) | exact ⟨by go_cell, by go_cell, by go_cell, by go_cell, by go_grown⟩)
    (first
      | (go_at_call 21; refine (topoint_any _ _ _).mono ?_; rintro e w1 ⟨rfl, hb⟩)
      | (go_at_call 20; refine (sbearing_any _ _ _ _ _).mono ?_; rintro e w1 ⟨r, hr, rfl, hb⟩))
  go_wp2_with (fail)
  go_region_held3 (fun w' => w'.cell? ⟨w.heap.size, 0, none⟩ = some (.int .i64 ax) ∧ w'.cell? ⟨w.heap.size, 1, none⟩ = some (.int .i64 ay) ∧ w'.cell? ⟨w.heap.size + 1, 0, none⟩ = some (.int .i64 bx) ∧ w'.cell? ⟨w.heap.size + 1, 1, none⟩ = some (.int .i64 cy) ∧ Below w.heap.size w w')
    (first | assumption | exact keep4 (by assumption) (by assumption) | exact drew4 (by assumption) | exact ⟨by go_cell, by go_cell, by go_cell, by go_cell, by go_grown⟩)
    (first
      | (go_at_call 21; refine (topoint_any _ _ _).mono ?_; rintro e w1 ⟨rfl, hb⟩)
      | (go_at_call 10; refine (bearing_any _ _ _ _ _ (SinesAt.below HS.out (keepB4 (by assumption)))).mono ?_; rintro e w1 ⟨s, hs, rfl, hb⟩; obtain rfl := hs.one hr))
  go_wp2
  go_ret
  exact ⟨rfl, keepB4 (by assumption)⟩
end Go.Proofs.YtochniaofmeheaaDoor
