/- The text of a point. -/
import Derived.Test.YtlelcecbpahliaaGreatDoorListI
import Derived.Test.YtlelcecbpahliaaGreatDoorOk
import Derived.Deep.RegionHeld3
namespace Go.Proofs.YtlelcecbpahliaaGreatDoor
open Go.ChangeShapes Go.WideShapes Go.ChangeAt Go.RowKit Pm

/-- The text of a valid point; else nothing. -/
def ptText (x y : Int) : ByteArray := if inB 0 200000 [x, y] = true then ⟨(jn [x, y]).toArray⟩ else ⟨#[]⟩
theorem listT_pt (x y : Int) (h : inB 0 200000 [x, y] = true) : listT [x, y] = jn [x, y] := by
  have hb : (0 ≤ x ∧ x ≤ 200000) ∧ 0 ≤ y ∧ y ≤ 200000 := by simpa [inB] using h
  unfold listT
  rw [if_pos (by simp [fitsB, inB]; omega), if_neg (by simp)]


theorem pointtext_any (x y : Int) (w : World) (hp : PowAt w) :
    Calls Tryz.prog 51 #[.agg #[.int .i64 x, .int .i64 y]] w fun e w' => e = .returned (.string (ptText x y)) ∧ Below w.heap.size w w' := by
  cases h : inB 0 200000 [x, y]
  · have hv := Lib.hid (show ptText x y = ⟨#[]⟩ by unfold ptText; rw [if_neg (by simp [h])])
    clear hp
    go_enter Tryz.func51, Tryz.ntmps51
    go_wp2_with (first
      | (go_at_call 53; refine (ok_any _ _ _).mono ?_; rintro e w1 ⟨rfl, hb⟩; have ac := Below.next (a := w) (by go_grown) hb; have az := ac.size; have c0 := cell_below (a := ⟨w.heap.size, 0, none⟩) (v := .int .i64 x) (by go_cell) hb; have c1 := cell_below (a := ⟨w.heap.size, 1, none⟩) (v := .int .i64 y) (by go_cell) hb; clear hb))
    go_ret
    exact ⟨ret_str hv.out.symm, by go_grown⟩
  · have hv := Lib.hid (show ptText x y = ⟨(listT [x, y]).toArray⟩ by rw [listT_pt x y h]; unfold ptText; rw [if_pos h])
    have HP := Lib.hid hp
    clear hp
    go_enter Tryz.func51, Tryz.ntmps51
    go_wp2_with (first
      | (go_at_call 53; refine (ok_any _ _ _).mono ?_; rintro e w1 ⟨rfl, hb⟩; have ac := Below.next (a := w) (by go_grown) hb; have az := ac.size; have c0 := cell_below (a := ⟨w.heap.size, 0, none⟩) (v := .int .i64 x) (by go_cell) hb; have c1 := cell_below (a := ⟨w.heap.size, 1, none⟩) (v := .int .i64 y) (by go_cell) hb; clear hb)
      | (go_at_call 82; refine (listtext_any _ _ _ (ints_two_at _ _ _ _ rfl) (HP.out.below (by go_grown))).mono ?_; rintro e w2 ⟨rfl, hb⟩; have ac2 := Below.next (a := w) (by go_grown) hb; clear hb))
    go_ret
    exact ⟨ret_str hv.out.symm, by go_grown⟩

end Go.Proofs.YtlelcecbpahliaaGreatDoor
