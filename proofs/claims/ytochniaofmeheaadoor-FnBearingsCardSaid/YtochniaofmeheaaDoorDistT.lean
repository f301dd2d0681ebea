/- Distances, of the model alone. -/
import Derived.Test.YtochniaofmeheaaDoorSqS
import Derived.Test.YtochniaofmeheaaDoorRootP
namespace Go.Proofs.YtochniaofmeheaaDoor
open Go.ChangeShapes Go.WideShapes Go.ChangeAt Go.RowKit Pm

/-- What it is to be the distance of two points, rounded down; 0 if one is not valid. -/
def DistIs (ax ay bx cy r : Int) : Prop := if (okB (ax, ay) && okB (bx, cy)) = true then Root (sqd ax ay bx cy) r else r = 0
theorem DistIs.one {ax ay bx cy r s : Int} (h : DistIs ax ay bx cy r) (k : DistIs ax ay bx cy s) : r = s := by
  unfold DistIs at h k
  by_cases hc : (okB (ax, ay) && okB (bx, cy)) = true
  · rw [if_pos hc] at h k; exact h.one k
  · rw [if_neg hc] at h k; rw [h, k]

theorem sapart_any (ax ay bx cy : Int) (w : World) (ha : Vd ax ay) (hb : Vd bx cy) :
    Calls Tryd.prog 34 #[.agg #[.int .i64 ax, .int .i64 ay], .agg #[.int .i64 bx, .int .i64 cy]] w fun e w' => ∃ r, Root (sqd ax ay bx cy) r ∧ e = .returned (.int .i64 r) ∧ Below w.heap.size w w' := by
  have HS := Lib.hid (sqd_bd ha hb)
  have HA := Lib.hid ha
  have HB := Lib.hid hb
  clear ha hb
  go_enter Tryd.func34, Tryd.ntmps34
  go_wp2_with (first
    | (go_at_call 51; refine (ssquare_any _ _ _ _ _ HA.out HB.out).mono ?_; rintro e w1 ⟨rfl, hb⟩; have ac := Below.next (a := w) (by go_grown) hb; clear hb)
    | (go_at_call 50; refine (sroot_any _ _ (Int.le_trans HS.out (by decide))).mono ?_; rintro e w1 ⟨r, hr, rfl, rfl⟩))
  go_ret
  exact ⟨r, hr, rfl, by go_grown⟩

theorem sdistance_any (ax ay bx cy : Int) (w : World) :
    Calls Tryd.prog 13 #[.agg #[.int .i64 ax, .int .i64 ay], .agg #[.int .i64 bx, .int .i64 cy]] w fun e w' => ∃ r, DistIs ax ay bx cy r ∧ e = .returned (.int .i64 r) ∧ Below w.heap.size w w' := by
  by_cases h1 : inB 0 200000 [ax, ay] = true
  · by_cases h2 : inB 0 200000 [bx, cy] = true
    · have HA := Lib.hid (vd_of h1)
      have HB := Lib.hid (vd_of h2)
      have HD := Lib.hid (fun r (h : Root (sqd ax ay bx cy) r) => (show DistIs ax ay bx cy r by unfold DistIs okB; rw [if_pos (by simp [h1, h2])]; exact h))
      go_enter Tryd.func13, Tryd.ntmps13
      go_wp2_with (first
        | (go_at_call 31; refine (sok_any _ _ _).mono ?_; rintro e w1 ⟨rfl, hb⟩; have ac := Below.next (a := w) (by go_grown) hb; have c0 := cell_below (a := ⟨w.heap.size, 0, none⟩) (v := .int .i64 ax) (by go_cell) hb; have c1 := cell_below (a := ⟨w.heap.size, 1, none⟩) (v := .int .i64 ay) (by go_cell) hb; have c2 := cell_below (a := ⟨w.heap.size + 1, 0, none⟩) (v := .int .i64 bx) (by go_cell) hb; have c3 := cell_below (a := ⟨w.heap.size + 1, 1, none⟩) (v := .int .i64 cy) (by go_cell) hb; clear hb)
        | (go_at_call 34; refine (sapart_any _ _ _ _ _ HA.out HB.out).mono ?_; rintro e w1 ⟨r, hr, rfl, hb⟩; have ac := Below.next (a := w) (by go_grown) hb; clear hb))
      go_ret
      exact ⟨r, HD.out r hr, rfl, by go_grown⟩
    · have h2f : inB 0 200000 [bx, cy] = false := by simpa using h2
      have HD := Lib.hid (show DistIs ax ay bx cy 0 by unfold DistIs okB; rw [if_neg (by simp [h2f])])
      clear h2
      go_enter Tryd.func13, Tryd.ntmps13
      go_wp2_with (first
        | (go_at_call 31; refine (sok_any _ _ _).mono ?_; rintro e w1 ⟨rfl, hb⟩; have ac := Below.next (a := w) (by go_grown) hb; have c0 := cell_below (a := ⟨w.heap.size, 0, none⟩) (v := .int .i64 ax) (by go_cell) hb; have c1 := cell_below (a := ⟨w.heap.size, 1, none⟩) (v := .int .i64 ay) (by go_cell) hb; have c2 := cell_below (a := ⟨w.heap.size + 1, 0, none⟩) (v := .int .i64 bx) (by go_cell) hb; have c3 := cell_below (a := ⟨w.heap.size + 1, 1, none⟩) (v := .int .i64 cy) (by go_cell) hb; clear hb))
      go_ret
      exact ⟨0, HD.out, rfl, by go_grown⟩
  · have h1f : inB 0 200000 [ax, ay] = false := by simpa using h1
    have HD := Lib.hid (show DistIs ax ay bx cy 0 by unfold DistIs okB; rw [if_neg (by simp [h1f])])
    clear h1
    go_enter Tryd.func13, Tryd.ntmps13
    go_wp2_with (first
      | (go_at_call 31; refine (sok_any _ _ _).mono ?_; rintro e w1 ⟨rfl, hb⟩; have ac := Below.next (a := w) (by go_grown) hb; clear hb))
    go_ret
    exact ⟨0, HD.out, rfl, by go_grown⟩
end Go.Proofs.YtochniaofmeheaaDoor
