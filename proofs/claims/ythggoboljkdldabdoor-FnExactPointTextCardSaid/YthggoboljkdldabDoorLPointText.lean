/- The law of PointText. -/
import Derived.Test.YthggoboljkdldabDoorPtText
namespace Go.Proofs.YthggoboljkdldabDoor
open Go.ChangeShapes Go.WideShapes Go.ChangeAt Go.RowKit Pm

theorem pointtext_law (x y : Int) (w : World) (hL : laidMetH Tryd.prog Rows.fnExactPointTextRow.laid w) :
    Calls Tryd.prog 4 #[.agg #[.int .i64 x, .int .i64 y]] w fun e w' => e = .returned (.bool true) ∧ Below w.heap.size w w' := by
  rw [MakeChecks.laidMetH_plain _ _ _ (by kernel_rfl)] at hL
  have HP := Lib.hid (pow_of hL)
  clear hL
  generalize hs : ptText x y = s
  have HS := Lib.hid (fun w => hs ▸ spointtext_any x y w)
  have HI := Lib.hid (fun w hp => hs ▸ pointtext_any x y w hp)
  clear hs
  go_enter Tryd.func4, Tryd.ntmps4
  go_wp2_with (first
    | (go_at_call 18; refine (topoint_any _ _ _).mono ?_; rintro e w1 ⟨rfl, hb⟩; have ac := Below.next (a := w) (by go_grown) hb; have az := ac.size; have c0 := cell_below (a := ⟨w.heap.size, 0, none⟩) (v := .int .i64 x) (by go_cell) hb; have c1 := cell_below (a := ⟨w.heap.size, 1, none⟩) (v := .int .i64 y) (by go_cell) hb; clear hb)
    | (go_at_call 17; refine (HS.out _).mono ?_; rintro e w1 ⟨rfl, hb⟩; have ac := Below.next (a := w) (by go_grown) hb; have az := ac.size; have c0 := cell_below (a := ⟨w.heap.size, 0, none⟩) (v := .int .i64 x) (by go_cell) hb; have c1 := cell_below (a := ⟨w.heap.size, 1, none⟩) (v := .int .i64 y) (by go_cell) hb; clear hb)
    | (go_at_call 19; refine (HI.out _ (HP.out.below ac)).mono ?_; rintro e w1 ⟨rfl, hb⟩; have ac := Below.next (a := w) (by go_grown) hb; have az := ac.size; clear hb))
  go_ret
  exact ⟨rfl, by go_grown⟩
end Go.Proofs.YthggoboljkdldabDoor
