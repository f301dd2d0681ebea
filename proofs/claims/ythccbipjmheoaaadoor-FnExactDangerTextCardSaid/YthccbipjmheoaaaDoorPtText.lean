/- The text of a point. -/
import Derived.Test.YthccbipjmheoaaaDoorListI
import Derived.Test.YthccbipjmheoaaaDoorOk
import Derived.Deep.RegionHeld3
namespace Go.Proofs.YthccbipjmheoaaaDoor
open Go.ChangeShapes Go.WideShapes Go.ChangeAt Go.RowKit Pm

/-- The text of a valid point; else nothing. -/
def ptText (x y : Int) : ByteArray := if inB 0 200000 [x, y] = true then ⟨(jn [x, y]).toArray⟩ else ⟨#[]⟩
theorem listT_pt (x y : Int) (h : inB 0 200000 [x, y] = true) : listT [x, y] = jn [x, y] := by
  have hb : (0 ≤ x ∧ x ≤ 200000) ∧ 0 ≤ y ∧ y ≤ 200000 := by simpa [inB] using h
  unfold listT
  rw [if_pos (by simp [fitsB, inB]; omega), if_neg (by simp)]

set_option maxRecDepth 100000 in
set_option maxHeartbeats 1000000 in
theorem stext_any (x y : Int) (w : World) (h : inB 0 200000 [x, y] = true) :
    Calls Tryd.prog 47 #[.agg #[.int .i64 x, .int .i64 y]] w fun e w' => e = .returned (.string ⟨(jn [x, y]).toArray⟩) ∧ Below w.heap.size w w' := by
  obtain ⟨⟨x0, x1⟩, y0, y1⟩ : (0 ≤ x ∧ x ≤ 200000) ∧ 0 ≤ y ∧ y ≤ 200000 := by simpa [inB] using h
  have lx := Lib.itoa_length_le x (by omega) (by omega)
  have ly := Lib.itoa_length_le y (by omega) (by omega)
  have HC := Lib.hid (show ∀ z w, 0 ≤ z → z ≤ 200000 → Calls Tryd.prog 48 #[.int .i64 z] w fun e w' => e = .returned (.string (itoaS z)) ∧ Below w.heap.size w w' from fun z w h0 h1 => sdec_any z w (by omega) (by omega))
  have hv : itoaS x ++ ⟨#[44]⟩ ++ itoaS y = ⟨(jn [x, y]).toArray⟩ := by
    refine WideShapes.bytes_inj ?_
    rw [show jn [x, y] = Lib.itoa x ++ 44 :: jn [y] by simp [jn, Lib.join_cons, Lib.joinTail], jn_one]
    simp [itoaS, ByteArray.data_append]
  have hx : (itoaS x).size ≤ 21 := by simpa [itoaS, ByteArray.size] using lx
  have hy : (itoaS y).size ≤ 21 := by simpa [itoaS, ByteArray.size] using ly
  have k1 := fun w => run_string_add_sum (P := Tryd.prog) (w := w) (itoaS x) ⟨#[44]⟩ (by have : (⟨#[44]⟩ : ByteArray).size = 1 := rfl; omega)
  have k2 := fun w => run_string_add_sum (P := Tryd.prog) (w := w) (itoaS x ++ ⟨#[44]⟩) (itoaS y) (by rw [ByteArray.size_append]; have : (⟨#[44]⟩ : ByteArray).size = 1 := rfl; omega)
  have HV := Lib.hid hv
  clear hv hx hy h lx ly
  go_enter Tryd.func47, Tryd.ntmps47
  go_wp2_with (fail)
  go_region_held3 (fun w' => w'.cell? ⟨w.heap.size, 0, none⟩ = some (.int .i64 x) ∧ w'.cell? ⟨w.heap.size, 1, none⟩ = some (.int .i64 y) ∧ Below w.heap.size w w')
    (first | assumption | exact keep2 (by assumption) (by assumption) | exact drew2 (by assumption) | exact ⟨by go_cell, by go_cell, by go_grown⟩)
    (first
      | (go_at_call 48; refine (HC.out _ _ (by omega) (by omega)).mono ?_; rintro e w1 ⟨rfl, hb⟩))
  go_wp2
  go_ret
  exact ⟨ret_str HV.out, keepB2 (by assumption)⟩

theorem pointtext_any (x y : Int) (w : World) (hp : PowAt w) :
    Calls Tryd.prog 32 #[.agg #[.int .i64 x, .int .i64 y]] w fun e w' => e = .returned (.string (ptText x y)) ∧ Below w.heap.size w w' := by
  cases h : inB 0 200000 [x, y]
  · have hv := Lib.hid (show ptText x y = ⟨#[]⟩ by unfold ptText; rw [if_neg (by simp [h])])
    clear hp
    go_enter Tryd.func32, Tryd.ntmps32
    go_wp2_with (first
      | (go_at_call 22; refine (ok_any _ _ _).mono ?_; rintro e w1 ⟨rfl, hb⟩; have ac := Below.next (a := w) (by go_grown) hb; have az := ac.size; have c0 := cell_below (a := ⟨w.heap.size, 0, none⟩) (v := .int .i64 x) (by go_cell) hb; have c1 := cell_below (a := ⟨w.heap.size, 1, none⟩) (v := .int .i64 y) (by go_cell) hb; clear hb))
    go_ret
    exact ⟨ret_str hv.out.symm, by go_grown⟩
  · have hv := Lib.hid (show ptText x y = ⟨(listT [x, y]).toArray⟩ by rw [listT_pt x y h]; unfold ptText; rw [if_pos h])
    have HP := Lib.hid hp
    clear hp
    go_enter Tryd.func32, Tryd.ntmps32
    go_wp2_with (first
      | (go_at_call 22; refine (ok_any _ _ _).mono ?_; rintro e w1 ⟨rfl, hb⟩; have ac := Below.next (a := w) (by go_grown) hb; have az := ac.size; have c0 := cell_below (a := ⟨w.heap.size, 0, none⟩) (v := .int .i64 x) (by go_cell) hb; have c1 := cell_below (a := ⟨w.heap.size, 1, none⟩) (v := .int .i64 y) (by go_cell) hb; clear hb)
      | (go_at_call 52; refine (listtext_any _ _ _ (ints_two_at _ _ _ _ rfl) (HP.out.below (by go_grown))).mono ?_; rintro e w2 ⟨rfl, hb⟩; have ac2 := Below.next (a := w) (by go_grown) hb; clear hb))
    go_ret
    exact ⟨ret_str hv.out.symm, by go_grown⟩

end Go.Proofs.YthccbipjmheoaaaDoor
