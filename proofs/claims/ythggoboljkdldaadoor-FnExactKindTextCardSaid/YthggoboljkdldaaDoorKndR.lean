/- The program's row of a kind; the texts of kinds, the lengths of flashes, of the program and of the model. -/
import Derived.Test.YthggoboljkdldaaDoorKndI
import Derived.Test.YthggoboljkdldaaDoorWithin
namespace Go.Proofs.YthggoboljkdldaaDoor
open Go.ChangeShapes Go.WideShapes Go.ChangeAt Go.RowKit Pm

theorem block_lt {w : World} {a : Addr} {v : Value} (h : w.cell? a = some v) : a.block < w.heap.size := by
  rcases Nat.lt_or_ge a.block w.heap.size with h' | h'
  · exact h'
  · simp [World.cell?, Array.getElem?_eq_none h'] at h
theorem within_one (z : Int) (b : Bool) (h : inB 1 8 [z] = b) (w' : World) (n : Nat) (hn : w'.heap.size = n) : Calls Tryd.prog 44 #[.int .i64 1, .int .i64 8, .slice (some ⟨n, 0, none⟩) 1 1] (w'.alloc (.cells #[Value.int .i64 z] 2)) (fun e w'' => e = .returned (.bool b) ∧ (w'.alloc (.cells #[Value.int .i64 z] 2)) = w'') := by
  subst hn h
  exact within_any 1 8 _ [z] _ (ints_one w' .i64 z 2)
set_option maxRecDepth 100000 in
theorem rowof_1 (w : World) (hK : KindsAt w) :
    Calls Tryd.prog 41 #[.int .i64 1] w fun e w' => e = .returned (.agg #[.string ⟨#[70]⟩, .int .i64 0, .int .i64 0, .int .i64 0]) ∧ Below w.heap.size w w' := by
  have HK := Lib.hid (fun w1 (hb : Below w.heap.size w w1) => hK.below hb 1 (by decide))
  have HW := Lib.hid (within_one 1 true (by decide))
  clear hK
  go_enter Tryd.func41, Tryd.ntmps41
  go_wp2_with (go_at_call 44; (refine (HW.out _ _ ?_).mono ?_); (· simp); rintro e w1 ⟨rfl, hw1⟩; refine Hid.out ?_)
  refine Lib.hid ?_
  have hb : Below w.heap.size w w1 := by rw [← hw1]; go_grown
  obtain ⟨j0, j1, j2, j3⟩ := HK.out w1 hb
  have k0 : w1.cell? ⟨0, 4, none⟩ = some (.string ⟨#[70]⟩) := j0
  have k1 : w1.cell? ⟨0, 5, none⟩ = some (.int .i64 0) := j1
  have k2 : w1.cell? ⟨0, 6, none⟩ = some (.int .i64 0) := j2
  have k3 : w1.cell? ⟨0, 7, none⟩ = some (.int .i64 0) := j3
  have d0 : w1.cell? ⟨w.heap.size, 0, none⟩ = some (.string ⟨#[]⟩) := by rw [← hw1]; clear hw1; go_cell
  have d1 : w1.cell? ⟨w.heap.size, 1, none⟩ = some (.int .i64 0) := by rw [← hw1]; clear hw1; go_cell
  have d2 : w1.cell? ⟨w.heap.size, 2, none⟩ = some (.int .i64 0) := by rw [← hw1]; clear hw1; go_cell
  have d3 : w1.cell? ⟨w.heap.size, 3, none⟩ = some (.int .i64 0) := by rw [← hw1]; clear hw1; go_cell
  have g0 : w1.frozen? ⟨w.heap.size, 0, none⟩ = false := by rw [← hw1]; clear hw1; go_simp
  have g1 : w1.frozen? ⟨w.heap.size, 1, none⟩ = false := by rw [← hw1]; clear hw1; go_simp
  have g2 : w1.frozen? ⟨w.heap.size, 2, none⟩ = false := by rw [← hw1]; clear hw1; go_simp
  have g3 : w1.frozen? ⟨w.heap.size, 3, none⟩ = false := by rw [← hw1]; clear hw1; go_simp
  have HB := Lib.hid hb
  clear hw1 hb j0 j1 j2 j3
  go_wp2
  refine bodyPost_ret (v := .agg #[.string ⟨#[70]⟩, .int .i64 0, .int .i64 0, .int .i64 0]) (by simp [results, Tryd.results41, go_sem, *]) rfl ⟨rfl, ?_⟩
  iterate 4 (refine Below.setCell ?_ (by exact Nat.le_refl _) _)
  exact HB.out
set_option maxRecDepth 100000 in
theorem rowof_2 (w : World) (hK : KindsAt w) :
    Calls Tryd.prog 41 #[.int .i64 2] w fun e w' => e = .returned (.agg #[.string ⟨#[79, 99]⟩, .int .i64 10, .int .i64 10, .int .i64 15]) ∧ Below w.heap.size w w' := by
  have HK := Lib.hid (fun w1 (hb : Below w.heap.size w w1) => hK.below hb 2 (by decide))
  have HW := Lib.hid (within_one 2 true (by decide))
  clear hK
  go_enter Tryd.func41, Tryd.ntmps41
  go_wp2_with (go_at_call 44; (refine (HW.out _ _ ?_).mono ?_); (· simp); rintro e w1 ⟨rfl, hw1⟩; refine Hid.out ?_)
  refine Lib.hid ?_
  have hb : Below w.heap.size w w1 := by rw [← hw1]; go_grown
  obtain ⟨j0, j1, j2, j3⟩ := HK.out w1 hb
  have k0 : w1.cell? ⟨0, 8, none⟩ = some (.string ⟨#[79, 99]⟩) := j0
  have k1 : w1.cell? ⟨0, 9, none⟩ = some (.int .i64 10) := j1
  have k2 : w1.cell? ⟨0, 10, none⟩ = some (.int .i64 10) := j2
  have k3 : w1.cell? ⟨0, 11, none⟩ = some (.int .i64 15) := j3
  have d0 : w1.cell? ⟨w.heap.size, 0, none⟩ = some (.string ⟨#[]⟩) := by rw [← hw1]; clear hw1; go_cell
  have d1 : w1.cell? ⟨w.heap.size, 1, none⟩ = some (.int .i64 0) := by rw [← hw1]; clear hw1; go_cell
  have d2 : w1.cell? ⟨w.heap.size, 2, none⟩ = some (.int .i64 0) := by rw [← hw1]; clear hw1; go_cell
  have d3 : w1.cell? ⟨w.heap.size, 3, none⟩ = some (.int .i64 0) := by rw [← hw1]; clear hw1; go_cell
  have g0 : w1.frozen? ⟨w.heap.size, 0, none⟩ = false := by rw [← hw1]; clear hw1; go_simp
  have g1 : w1.frozen? ⟨w.heap.size, 1, none⟩ = false := by rw [← hw1]; clear hw1; go_simp
  have g2 : w1.frozen? ⟨w.heap.size, 2, none⟩ = false := by rw [← hw1]; clear hw1; go_simp
  have g3 : w1.frozen? ⟨w.heap.size, 3, none⟩ = false := by rw [← hw1]; clear hw1; go_simp
  have HB := Lib.hid hb
  clear hw1 hb j0 j1 j2 j3
  go_wp2
  refine bodyPost_ret (v := .agg #[.string ⟨#[79, 99]⟩, .int .i64 10, .int .i64 10, .int .i64 15]) (by simp [results, Tryd.results41, go_sem, *]) rfl ⟨rfl, ?_⟩
  iterate 4 (refine Below.setCell ?_ (by exact Nat.le_refl _) _)
  exact HB.out
set_option maxRecDepth 100000 in
theorem rowof_3 (w : World) (hK : KindsAt w) :
    Calls Tryd.prog 41 #[.int .i64 3] w fun e w' => e = .returned (.agg #[.string ⟨#[73, 115, 111]⟩, .int .i64 0, .int .i64 0, .int .i64 0]) ∧ Below w.heap.size w w' := by
  have HK := Lib.hid (fun w1 (hb : Below w.heap.size w w1) => hK.below hb 3 (by decide))
  have HW := Lib.hid (within_one 3 true (by decide))
  clear hK
  go_enter Tryd.func41, Tryd.ntmps41
  go_wp2_with (go_at_call 44; (refine (HW.out _ _ ?_).mono ?_); (· simp); rintro e w1 ⟨rfl, hw1⟩; refine Hid.out ?_)
  refine Lib.hid ?_
  have hb : Below w.heap.size w w1 := by rw [← hw1]; go_grown
  obtain ⟨j0, j1, j2, j3⟩ := HK.out w1 hb
  have k0 : w1.cell? ⟨0, 12, none⟩ = some (.string ⟨#[73, 115, 111]⟩) := j0
  have k1 : w1.cell? ⟨0, 13, none⟩ = some (.int .i64 0) := j1
  have k2 : w1.cell? ⟨0, 14, none⟩ = some (.int .i64 0) := j2
  have k3 : w1.cell? ⟨0, 15, none⟩ = some (.int .i64 0) := j3
  have d0 : w1.cell? ⟨w.heap.size, 0, none⟩ = some (.string ⟨#[]⟩) := by rw [← hw1]; clear hw1; go_cell
  have d1 : w1.cell? ⟨w.heap.size, 1, none⟩ = some (.int .i64 0) := by rw [← hw1]; clear hw1; go_cell
  have d2 : w1.cell? ⟨w.heap.size, 2, none⟩ = some (.int .i64 0) := by rw [← hw1]; clear hw1; go_cell
  have d3 : w1.cell? ⟨w.heap.size, 3, none⟩ = some (.int .i64 0) := by rw [← hw1]; clear hw1; go_cell
  have g0 : w1.frozen? ⟨w.heap.size, 0, none⟩ = false := by rw [← hw1]; clear hw1; go_simp
  have g1 : w1.frozen? ⟨w.heap.size, 1, none⟩ = false := by rw [← hw1]; clear hw1; go_simp
  have g2 : w1.frozen? ⟨w.heap.size, 2, none⟩ = false := by rw [← hw1]; clear hw1; go_simp
  have g3 : w1.frozen? ⟨w.heap.size, 3, none⟩ = false := by rw [← hw1]; clear hw1; go_simp
  have HB := Lib.hid hb
  clear hw1 hb j0 j1 j2 j3
  go_wp2
  refine bodyPost_ret (v := .agg #[.string ⟨#[73, 115, 111]⟩, .int .i64 0, .int .i64 0, .int .i64 0]) (by simp [results, Tryd.results41, go_sem, *]) rfl ⟨rfl, ?_⟩
  iterate 4 (refine Below.setCell ?_ (by exact Nat.le_refl _) _)
  exact HB.out
set_option maxRecDepth 100000 in
theorem rowof_4 (w : World) (hK : KindsAt w) :
    Calls Tryd.prog 41 #[.int .i64 4] w fun e w' => e = .returned (.agg #[.string ⟨#[70, 108]⟩, .int .i64 5, .int .i64 15, .int .i64 20]) ∧ Below w.heap.size w w' := by
  have HK := Lib.hid (fun w1 (hb : Below w.heap.size w w1) => hK.below hb 4 (by decide))
  have HW := Lib.hid (within_one 4 true (by decide))
  clear hK
  go_enter Tryd.func41, Tryd.ntmps41
  go_wp2_with (go_at_call 44; (refine (HW.out _ _ ?_).mono ?_); (· simp); rintro e w1 ⟨rfl, hw1⟩; refine Hid.out ?_)
  refine Lib.hid ?_
  have hb : Below w.heap.size w w1 := by rw [← hw1]; go_grown
  obtain ⟨j0, j1, j2, j3⟩ := HK.out w1 hb
  have k0 : w1.cell? ⟨0, 16, none⟩ = some (.string ⟨#[70, 108]⟩) := j0
  have k1 : w1.cell? ⟨0, 17, none⟩ = some (.int .i64 5) := j1
  have k2 : w1.cell? ⟨0, 18, none⟩ = some (.int .i64 15) := j2
  have k3 : w1.cell? ⟨0, 19, none⟩ = some (.int .i64 20) := j3
  have d0 : w1.cell? ⟨w.heap.size, 0, none⟩ = some (.string ⟨#[]⟩) := by rw [← hw1]; clear hw1; go_cell
  have d1 : w1.cell? ⟨w.heap.size, 1, none⟩ = some (.int .i64 0) := by rw [← hw1]; clear hw1; go_cell
  have d2 : w1.cell? ⟨w.heap.size, 2, none⟩ = some (.int .i64 0) := by rw [← hw1]; clear hw1; go_cell
  have d3 : w1.cell? ⟨w.heap.size, 3, none⟩ = some (.int .i64 0) := by rw [← hw1]; clear hw1; go_cell
  have g0 : w1.frozen? ⟨w.heap.size, 0, none⟩ = false := by rw [← hw1]; clear hw1; go_simp
  have g1 : w1.frozen? ⟨w.heap.size, 1, none⟩ = false := by rw [← hw1]; clear hw1; go_simp
  have g2 : w1.frozen? ⟨w.heap.size, 2, none⟩ = false := by rw [← hw1]; clear hw1; go_simp
  have g3 : w1.frozen? ⟨w.heap.size, 3, none⟩ = false := by rw [← hw1]; clear hw1; go_simp
  have HB := Lib.hid hb
  clear hw1 hb j0 j1 j2 j3
  go_wp2
  refine bodyPost_ret (v := .agg #[.string ⟨#[70, 108]⟩, .int .i64 5, .int .i64 15, .int .i64 20]) (by simp [results, Tryd.results41, go_sem, *]) rfl ⟨rfl, ?_⟩
  iterate 4 (refine Below.setCell ?_ (by exact Nat.le_refl _) _)
  exact HB.out
set_option maxRecDepth 100000 in
theorem rowof_5 (w : World) (hK : KindsAt w) :
    Calls Tryd.prog 41 #[.int .i64 5] w fun e w' => e = .returned (.agg #[.string ⟨#[76, 70, 108]⟩, .int .i64 20, .int .i64 20, .int .i64 25]) ∧ Below w.heap.size w w' := by
  have HK := Lib.hid (fun w1 (hb : Below w.heap.size w w1) => hK.below hb 5 (by decide))
  have HW := Lib.hid (within_one 5 true (by decide))
  clear hK
  go_enter Tryd.func41, Tryd.ntmps41
  go_wp2_with (go_at_call 44; (refine (HW.out _ _ ?_).mono ?_); (· simp); rintro e w1 ⟨rfl, hw1⟩; refine Hid.out ?_)
  refine Lib.hid ?_
  have hb : Below w.heap.size w w1 := by rw [← hw1]; go_grown
  obtain ⟨j0, j1, j2, j3⟩ := HK.out w1 hb
  have k0 : w1.cell? ⟨0, 20, none⟩ = some (.string ⟨#[76, 70, 108]⟩) := j0
  have k1 : w1.cell? ⟨0, 21, none⟩ = some (.int .i64 20) := j1
  have k2 : w1.cell? ⟨0, 22, none⟩ = some (.int .i64 20) := j2
  have k3 : w1.cell? ⟨0, 23, none⟩ = some (.int .i64 25) := j3
  have d0 : w1.cell? ⟨w.heap.size, 0, none⟩ = some (.string ⟨#[]⟩) := by rw [← hw1]; clear hw1; go_cell
  have d1 : w1.cell? ⟨w.heap.size, 1, none⟩ = some (.int .i64 0) := by rw [← hw1]; clear hw1; go_cell
  have d2 : w1.cell? ⟨w.heap.size, 2, none⟩ = some (.int .i64 0) := by rw [← hw1]; clear hw1; go_cell
  have d3 : w1.cell? ⟨w.heap.size, 3, none⟩ = some (.int .i64 0) := by rw [← hw1]; clear hw1; go_cell
  have g0 : w1.frozen? ⟨w.heap.size, 0, none⟩ = false := by rw [← hw1]; clear hw1; go_simp
  have g1 : w1.frozen? ⟨w.heap.size, 1, none⟩ = false := by rw [← hw1]; clear hw1; go_simp
  have g2 : w1.frozen? ⟨w.heap.size, 2, none⟩ = false := by rw [← hw1]; clear hw1; go_simp
  have g3 : w1.frozen? ⟨w.heap.size, 3, none⟩ = false := by rw [← hw1]; clear hw1; go_simp
  have HB := Lib.hid hb
  clear hw1 hb j0 j1 j2 j3
  go_wp2
  refine bodyPost_ret (v := .agg #[.string ⟨#[76, 70, 108]⟩, .int .i64 20, .int .i64 20, .int .i64 25]) (by simp [results, Tryd.results41, go_sem, *]) rfl ⟨rfl, ?_⟩
  iterate 4 (refine Below.setCell ?_ (by exact Nat.le_refl _) _)
  exact HB.out
set_option maxRecDepth 100000 in
theorem rowof_6 (w : World) (hK : KindsAt w) :
    Calls Tryd.prog 41 #[.int .i64 6] w fun e w' => e = .returned (.agg #[.string ⟨#[81]⟩, .int .i64 5, .int .i64 5, .int .i64 20]) ∧ Below w.heap.size w w' := by
  have HK := Lib.hid (fun w1 (hb : Below w.heap.size w w1) => hK.below hb 6 (by decide))
  have HW := Lib.hid (within_one 6 true (by decide))
  clear hK
  go_enter Tryd.func41, Tryd.ntmps41
  go_wp2_with (go_at_call 44; (refine (HW.out _ _ ?_).mono ?_); (· simp); rintro e w1 ⟨rfl, hw1⟩; refine Hid.out ?_)
  refine Lib.hid ?_
  have hb : Below w.heap.size w w1 := by rw [← hw1]; go_grown
  obtain ⟨j0, j1, j2, j3⟩ := HK.out w1 hb
  have k0 : w1.cell? ⟨0, 24, none⟩ = some (.string ⟨#[81]⟩) := j0
  have k1 : w1.cell? ⟨0, 25, none⟩ = some (.int .i64 5) := j1
  have k2 : w1.cell? ⟨0, 26, none⟩ = some (.int .i64 5) := j2
  have k3 : w1.cell? ⟨0, 27, none⟩ = some (.int .i64 20) := j3
  have d0 : w1.cell? ⟨w.heap.size, 0, none⟩ = some (.string ⟨#[]⟩) := by rw [← hw1]; clear hw1; go_cell
  have d1 : w1.cell? ⟨w.heap.size, 1, none⟩ = some (.int .i64 0) := by rw [← hw1]; clear hw1; go_cell
  have d2 : w1.cell? ⟨w.heap.size, 2, none⟩ = some (.int .i64 0) := by rw [← hw1]; clear hw1; go_cell
  have d3 : w1.cell? ⟨w.heap.size, 3, none⟩ = some (.int .i64 0) := by rw [← hw1]; clear hw1; go_cell
  have g0 : w1.frozen? ⟨w.heap.size, 0, none⟩ = false := by rw [← hw1]; clear hw1; go_simp
  have g1 : w1.frozen? ⟨w.heap.size, 1, none⟩ = false := by rw [← hw1]; clear hw1; go_simp
  have g2 : w1.frozen? ⟨w.heap.size, 2, none⟩ = false := by rw [← hw1]; clear hw1; go_simp
  have g3 : w1.frozen? ⟨w.heap.size, 3, none⟩ = false := by rw [← hw1]; clear hw1; go_simp
  have HB := Lib.hid hb
  clear hw1 hb j0 j1 j2 j3
  go_wp2
  refine bodyPost_ret (v := .agg #[.string ⟨#[81]⟩, .int .i64 5, .int .i64 5, .int .i64 20]) (by simp [results, Tryd.results41, go_sem, *]) rfl ⟨rfl, ?_⟩
  iterate 4 (refine Below.setCell ?_ (by exact Nat.le_refl _) _)
  exact HB.out
set_option maxRecDepth 100000 in
theorem rowof_7 (w : World) (hK : KindsAt w) :
    Calls Tryd.prog 41 #[.int .i64 7] w fun e w' => e = .returned (.agg #[.string ⟨#[86, 81]⟩, .int .i64 2, .int .i64 3, .int .i64 10]) ∧ Below w.heap.size w w' := by
  have HK := Lib.hid (fun w1 (hb : Below w.heap.size w w1) => hK.below hb 7 (by decide))
  have HW := Lib.hid (within_one 7 true (by decide))
  clear hK
  go_enter Tryd.func41, Tryd.ntmps41
  go_wp2_with (go_at_call 44; (refine (HW.out _ _ ?_).mono ?_); (· simp); rintro e w1 ⟨rfl, hw1⟩; refine Hid.out ?_)
  refine Lib.hid ?_
  have hb : Below w.heap.size w w1 := by rw [← hw1]; go_grown
  obtain ⟨j0, j1, j2, j3⟩ := HK.out w1 hb
  have k0 : w1.cell? ⟨0, 28, none⟩ = some (.string ⟨#[86, 81]⟩) := j0
  have k1 : w1.cell? ⟨0, 29, none⟩ = some (.int .i64 2) := j1
  have k2 : w1.cell? ⟨0, 30, none⟩ = some (.int .i64 3) := j2
  have k3 : w1.cell? ⟨0, 31, none⟩ = some (.int .i64 10) := j3
  have d0 : w1.cell? ⟨w.heap.size, 0, none⟩ = some (.string ⟨#[]⟩) := by rw [← hw1]; clear hw1; go_cell
  have d1 : w1.cell? ⟨w.heap.size, 1, none⟩ = some (.int .i64 0) := by rw [← hw1]; clear hw1; go_cell
  have d2 : w1.cell? ⟨w.heap.size, 2, none⟩ = some (.int .i64 0) := by rw [← hw1]; clear hw1; go_cell
  have d3 : w1.cell? ⟨w.heap.size, 3, none⟩ = some (.int .i64 0) := by rw [← hw1]; clear hw1; go_cell
  have g0 : w1.frozen? ⟨w.heap.size, 0, none⟩ = false := by rw [← hw1]; clear hw1; go_simp
  have g1 : w1.frozen? ⟨w.heap.size, 1, none⟩ = false := by rw [← hw1]; clear hw1; go_simp
  have g2 : w1.frozen? ⟨w.heap.size, 2, none⟩ = false := by rw [← hw1]; clear hw1; go_simp
  have g3 : w1.frozen? ⟨w.heap.size, 3, none⟩ = false := by rw [← hw1]; clear hw1; go_simp
  have HB := Lib.hid hb
  clear hw1 hb j0 j1 j2 j3
  go_wp2
  refine bodyPost_ret (v := .agg #[.string ⟨#[86, 81]⟩, .int .i64 2, .int .i64 3, .int .i64 10]) (by simp [results, Tryd.results41, go_sem, *]) rfl ⟨rfl, ?_⟩
  iterate 4 (refine Below.setCell ?_ (by exact Nat.le_refl _) _)
  exact HB.out
set_option maxRecDepth 100000 in
theorem rowof_8 (w : World) (hK : KindsAt w) :
    Calls Tryd.prog 41 #[.int .i64 8] w fun e w' => e = .returned (.agg #[.string ⟨#[77, 111]⟩, .int .i64 5, .int .i64 5, .int .i64 30]) ∧ Below w.heap.size w w' := by
  have HK := Lib.hid (fun w1 (hb : Below w.heap.size w w1) => hK.below hb 8 (by decide))
  have HW := Lib.hid (within_one 8 true (by decide))
  clear hK
  go_enter Tryd.func41, Tryd.ntmps41
  go_wp2_with (go_at_call 44; (refine (HW.out _ _ ?_).mono ?_); (· simp); rintro e w1 ⟨rfl, hw1⟩; refine Hid.out ?_)
  refine Lib.hid ?_
  have hb : Below w.heap.size w w1 := by rw [← hw1]; go_grown
  obtain ⟨j0, j1, j2, j3⟩ := HK.out w1 hb
  have k0 : w1.cell? ⟨0, 32, none⟩ = some (.string ⟨#[77, 111]⟩) := j0
  have k1 : w1.cell? ⟨0, 33, none⟩ = some (.int .i64 5) := j1
  have k2 : w1.cell? ⟨0, 34, none⟩ = some (.int .i64 5) := j2
  have k3 : w1.cell? ⟨0, 35, none⟩ = some (.int .i64 30) := j3
  have d0 : w1.cell? ⟨w.heap.size, 0, none⟩ = some (.string ⟨#[]⟩) := by rw [← hw1]; clear hw1; go_cell
  have d1 : w1.cell? ⟨w.heap.size, 1, none⟩ = some (.int .i64 0) := by rw [← hw1]; clear hw1; go_cell
  have d2 : w1.cell? ⟨w.heap.size, 2, none⟩ = some (.int .i64 0) := by rw [← hw1]; clear hw1; go_cell
  have d3 : w1.cell? ⟨w.heap.size, 3, none⟩ = some (.int .i64 0) := by rw [← hw1]; clear hw1; go_cell
  have g0 : w1.frozen? ⟨w.heap.size, 0, none⟩ = false := by rw [← hw1]; clear hw1; go_simp
  have g1 : w1.frozen? ⟨w.heap.size, 1, none⟩ = false := by rw [← hw1]; clear hw1; go_simp
  have g2 : w1.frozen? ⟨w.heap.size, 2, none⟩ = false := by rw [← hw1]; clear hw1; go_simp
  have g3 : w1.frozen? ⟨w.heap.size, 3, none⟩ = false := by rw [← hw1]; clear hw1; go_simp
  have HB := Lib.hid hb
  clear hw1 hb j0 j1 j2 j3
  go_wp2
  refine bodyPost_ret (v := .agg #[.string ⟨#[77, 111]⟩, .int .i64 5, .int .i64 5, .int .i64 30]) (by simp [results, Tryd.results41, go_sem, *]) rfl ⟨rfl, ?_⟩
  iterate 4 (refine Below.setCell ?_ (by exact Nat.le_refl _) _)
  exact HB.out
theorem rowof_no (k : Int) (h : inB 1 8 [k] = false) (w : World) :
    Calls Tryd.prog 41 #[.int .i64 k] w fun e w' => e = .returned (.agg #[.string ⟨#[]⟩, .int .i64 0, .int .i64 0, .int .i64 0]) ∧ Below w.heap.size w w' := by
  have HW := Lib.hid (within_one k false h)
  clear h
  go_enter Tryd.func41, Tryd.ntmps41
  go_wp2_with (go_at_call 44; (refine (HW.out _ _ ?_).mono ?_); (· simp); rintro e w' ⟨rfl, rfl⟩)
  go_returns
  exact ⟨rfl, by go_grown⟩
/-- The text of a kind; nothing where there is none. -/
def kindText (k : Int) : ByteArray := if inB 1 8 [k] = true then kindS k.toNat else ⟨#[]⟩
/-- The length of a flash; 0 where a kind has none. -/
def flashLen (k : Int) : Int := if inB 1 8 [k] = true then (kindRow k.toNat).2.1 else 0
theorem rowof_any (k : Int) (w : World) (hK : KindsAt w) : ∃ q z, Calls Tryd.prog 41 #[.int .i64 k] w fun e w' => e = .returned (.agg #[.string (kindText k), .int .i64 (flashLen k), .int .i64 q, .int .i64 z]) ∧ Below w.heap.size w w' := by
  cases h : inB 1 8 [k]
  · have e1 : kindText k = ⟨#[]⟩ := by unfold kindText; rw [h]; rfl
    have e2 : flashLen k = 0 := by unfold flashLen; rw [h]; rfl
    rw [e1, e2]
    exact ⟨0, 0, rowof_no k h w⟩
  · have hb : 1 ≤ k ∧ k ≤ 8 := by simpa [inB] using h
    have hk : k = 1 ∨ k = 2 ∨ k = 3 ∨ k = 4 ∨ k = 5 ∨ k = 6 ∨ k = 7 ∨ k = 8 := by omega
    clear h hb
    rcases hk with rfl | rfl | rfl | rfl | rfl | rfl | rfl | rfl
    · exact ⟨_, _, rowof_1 w hK⟩
    · exact ⟨_, _, rowof_2 w hK⟩
    · exact ⟨_, _, rowof_3 w hK⟩
    · exact ⟨_, _, rowof_4 w hK⟩
    · exact ⟨_, _, rowof_5 w hK⟩
    · exact ⟨_, _, rowof_6 w hK⟩
    · exact ⟨_, _, rowof_7 w hK⟩
    · exact ⟨_, _, rowof_8 w hK⟩
end Go.Proofs.YthggoboljkdldaaDoor
