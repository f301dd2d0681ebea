/- The usual marks: the model's. -/
import Derived.Test.YthheacebafleeaaDoorMrkD
namespace Go.Proofs.YthheacebafleeaaDoor
open Go.ChangeShapes Go.WideShapes Go.ChangeAt Go.RowKit Pm

set_option maxRecDepth 100000 in
set_option maxHeartbeats 4000000 in
theorem sstdmark_any (k : Int) (w : World) :
    Calls Tryd.prog 15 #[.int .i64 k] w fun e w' => e = .returned (.tuple #[stdV k, .int .i64 (if inB 1 9 [k] then 0 else 2)]) ∧ Below w.heap.size w w' := by
  have HL := fun w => skind_any k w
  unfold stdV
  cases h : inB 1 9 [k]
  · rw [h] at HL
    have HL := Lib.hid HL
    clear h
    simp only [Bool.false_eq_true, if_false]
    go_enter Tryd.func15, Tryd.ntmps15
    go_wp2_with (go_at_call 37; refine (HL.out _).mono ?_; rintro e w1 ⟨rfl, rfl⟩)
    refine bodyPost_ret (v := .tuple #[.agg #[.int .i64 0, .string ⟨#[]⟩, .string ⟨#[]⟩, .string ⟨#[]⟩], .int .i64 2]) (by simp [results, Tryd.results15, go_sem, *]) rfl ⟨rfl, ?_⟩
    go_grown
  · rw [h] at HL
    have hp := shapes_pos h
    have HC := Lib.hid (fun w => smkcolors_any k w h)
    have HT := Lib.hid (fun w => smktop_any k w h)
    have HN := fun w => smkshapes_any k w h
    have HL := Lib.hid HL
    clear h
    simp only [if_true]
    obtain ⟨z, hz⟩ : ∃ z, z = (mkShapes k).getD 0 ByteArray.empty := ⟨_, rfl⟩
    rw [← hz]
    replace HN := Lib.hid (fun w' => shape_ret2 hz hp (HN w'))
    generalize (mkShapes k).length = m at *
    clear hz
    generalize mkF k 1 = s1 at *
    generalize mkF k 3 = s3 at *
    have hm0 : (0 : Int) < (m : Int) := by omega
    go_enter Tryd.func15, Tryd.ntmps15
    go_wp2_with (go_at_call 37; refine (HL.out _).mono ?_; rintro e w1 ⟨rfl, rfl⟩)
    go_region_with (first
      | (go_at_call 38; (with_reducible refine (HC.out _).mono ?_); rintro e w3 ⟨rfl, hb⟩; have d0 := cell_below (a := ⟨w.heap.size, 0, none⟩) (v := .int .i64 0) (by first | assumption | go_cell) hb; have d1 := cell_below (a := ⟨w.heap.size, 1, none⟩) (v := .string ⟨#[]⟩) (by first | assumption | go_cell) hb; have d2 := cell_below (a := ⟨w.heap.size, 2, none⟩) (v := .string ⟨#[]⟩) (by first | assumption | go_cell) hb; have d3 := cell_below (a := ⟨w.heap.size, 3, none⟩) (v := .string ⟨#[]⟩) (by first | assumption | go_cell) hb; have g0 := mfrozen_below (a := ⟨w.heap.size, 0, none⟩) (by first | assumption | go_simp) (by first | assumption | (simp; done) | omega | (simp; omega)) hb; have g1 := mfrozen_below (a := ⟨w.heap.size, 1, none⟩) (by first | assumption | go_simp) (by first | assumption | (simp; done) | omega | (simp; omega)) hb; have g2 := mfrozen_below (a := ⟨w.heap.size, 2, none⟩) (by first | assumption | go_simp) (by first | assumption | (simp; done) | omega | (simp; omega)) hb; have g3 := mfrozen_below (a := ⟨w.heap.size, 3, none⟩) (by first | assumption | go_simp) (by first | assumption | (simp; done) | omega | (simp; omega)) hb; have ac : Below w.heap.size w w3 := Below.next (a := w) (by first | assumption | exact AC3.out | exact AC3.out.drew | go_grown) hb; have AC3 := Lib.hid ac; clear ac; have hy := hb.size; have hz : w.heap.size < w3.heap.size := (by first | omega | (simp at hy; omega)); clear hy; (try (have hst := cell_below (a := ⟨n, 0, none⟩) (v := .string z) (by first | assumption | go_cell) hb)); clear hb)
      | (go_at_call 40; (with_reducible refine (HT.out _).mono ?_); rintro e w4 ⟨rfl, hb⟩; have d0 := cell_below (a := ⟨w.heap.size, 0, none⟩) (v := .int .i64 0) (by first | assumption | go_cell) hb; have d1 := cell_below (a := ⟨w.heap.size, 1, none⟩) (v := .string ⟨#[]⟩) (by first | assumption | go_cell) hb; have d2 := cell_below (a := ⟨w.heap.size, 2, none⟩) (v := .string ⟨#[]⟩) (by first | assumption | go_cell) hb; have d3 := cell_below (a := ⟨w.heap.size, 3, none⟩) (v := .string ⟨#[]⟩) (by first | assumption | go_cell) hb; have g0 := mfrozen_below (a := ⟨w.heap.size, 0, none⟩) (by first | assumption | go_simp) (by first | assumption | (simp; done) | omega | (simp; omega)) hb; have g1 := mfrozen_below (a := ⟨w.heap.size, 1, none⟩) (by first | assumption | go_simp) (by first | assumption | (simp; done) | omega | (simp; omega)) hb; have g2 := mfrozen_below (a := ⟨w.heap.size, 2, none⟩) (by first | assumption | go_simp) (by first | assumption | (simp; done) | omega | (simp; omega)) hb; have g3 := mfrozen_below (a := ⟨w.heap.size, 3, none⟩) (by first | assumption | go_simp) (by first | assumption | (simp; done) | omega | (simp; omega)) hb; have ac : Below w.heap.size w w4 := Below.next (a := w) (by first | assumption | exact AC3.out | exact AC3.out.drew | go_grown) hb; have AC3 := Lib.hid ac; clear ac; have hy := hb.size; have hz : w.heap.size < w4.heap.size := (by first | omega | (simp at hy; omega)); clear hy; (try (have hst := cell_below (a := ⟨n, 0, none⟩) (v := .string z) (by first | assumption | go_cell) hb)); clear hb)
      | (go_at_call 39; (with_reducible refine (HN.out _).mono ?_); rintro e w5 ⟨n, rfl, hst, hn, hb⟩; have d0 := cell_below (a := ⟨w.heap.size, 0, none⟩) (v := .int .i64 0) (by first | assumption | go_cell) hb; have d1 := cell_below (a := ⟨w.heap.size, 1, none⟩) (v := .string ⟨#[]⟩) (by first | assumption | go_cell) hb; have d2 := cell_below (a := ⟨w.heap.size, 2, none⟩) (v := .string ⟨#[]⟩) (by first | assumption | go_cell) hb; have d3 := cell_below (a := ⟨w.heap.size, 3, none⟩) (v := .string ⟨#[]⟩) (by first | assumption | go_cell) hb; have g0 := mfrozen_below (a := ⟨w.heap.size, 0, none⟩) (by first | assumption | go_simp) (by first | assumption | (simp; done) | omega | (simp; omega)) hb; have g1 := mfrozen_below (a := ⟨w.heap.size, 1, none⟩) (by first | assumption | go_simp) (by first | assumption | (simp; done) | omega | (simp; omega)) hb; have g2 := mfrozen_below (a := ⟨w.heap.size, 2, none⟩) (by first | assumption | go_simp) (by first | assumption | (simp; done) | omega | (simp; omega)) hb; have g3 := mfrozen_below (a := ⟨w.heap.size, 3, none⟩) (by first | assumption | go_simp) (by first | assumption | (simp; done) | omega | (simp; omega)) hb; have ac : Below w.heap.size w w5 := Below.next (a := w) (by first | assumption | exact AC3.out | exact AC3.out.drew | go_grown) hb; have AC3 := Lib.hid ac; clear ac; have hy := hb.size; have hz : w.heap.size < w5.heap.size := (by first | omega | (simp at hy; omega)); clear hy; clear hb))
    all_goals
      go_wp2_with (fail)
      refine bodyPost_ret (v := .tuple #[.agg #[.int .i64 k, .string s1, .string z, .string s3], .int .i64 0]) (by simp [results, Tryd.results15, go_sem, *]) rfl ⟨rfl, ?_⟩
      iterate 4 (refine Below.setCell ?_ (by exact Nat.le_refl _) _)
      first | exact AC3.out | exact Below.next AC3.out (fall_drew _ _)
end Go.Proofs.YthheacebafleeaaDoor
