/- Reading a point, by the program. -/
import Derived.Test.YtlelcecbpahliaaGreatDoorReadI
import Derived.Test.YtlelcecbpahliaaGreatDoorReg
import Derived.Deep.RegionHeld3
namespace Go.Proofs.YtlelcecbpahliaaGreatDoor
open Go.ChangeShapes Go.WideShapes Go.ChangeAt Go.RowKit Pm

theorem frozen_belowR {w w' : World} {a : Addr} (h : w.frozen? a = false) (hl : a.block < w.heap.size) (hb : Below w.heap.size w w') : w'.frozen? a = false := by
  rw [hb.frozen hl]; exact h
/-- A reading's contract, the list hidden. -/
def RL (zs : List Int) (b : Bool) (w : World) (e : Ending) (w' : World) : Prop :=
  ∃ v, e = .returned (.tuple #[v, .bool b]) ∧ w'.ownsRow w.heap.size 2 1 v zs.length (intV zs) ∧ Below w.heap.size w w'

theorem own_form {w : World} {B : Nat} {E : TypeId} {v : Value} {n : Nat} {xs : List Value} (h : w.ownsRow B E 1 v n xs) :
    (v = .slice none 0 0 ∧ n = 0) ∨ ∃ g cap, v = .slice (some ⟨g, 0, none⟩) n cap ∧ B ≤ g := by
  rcases h.2 with ⟨h1, h2⟩ | ⟨g, cap, cur, h1, h3, _⟩
  · exact .inl ⟨h1, by simpa using h2⟩
  · exact .inr ⟨g, cap, h1, h3⟩
/-- What a point is read as, of a list that was read. -/
def rzV (b : Bool) : List Int → (Int × Int) × Bool
  | [x, y] => if (b && inB 0 200000 [x, y]) = true then ((x, y), true) else ((0, 0), false)
  | _ => ((0, 0), false)
theorem rz_no (b : Bool) (zs : List Int) (h : zs.length ≠ 2) : rzV b zs = ((0, 0), false) := by
  match zs, h with
  | [], _ => rfl
  | [_], _ => rfl
  | [_, _], h => exact absurd rfl h
  | _ :: _ :: _ :: _, _ => rfl
theorem rz_false (zs : List Int) : rzV false zs = ((0, 0), false) := by
  match zs with
  | [] => rfl
  | [_] => rfl
  | [_, _] => rfl
  | _ :: _ :: _ :: _ => rfl

theorem readpoint_false (s : ByteArray) (zs : List Int) (w : World) (hI : Calls Tryz.prog 69 #[.string s] (w.alloc (.cells #[.int .i64 0, .int .i64 0] 44)) (RL zs false (w.alloc (.cells #[.int .i64 0, .int .i64 0] 44)))) :
    Calls Tryz.prog 35 #[.string s] w fun e w' => e = .returned (.tuple #[.agg #[.int .i64 (rzV false zs).1.1, .int .i64 (rzV false zs).1.2], .bool (rzV false zs).2]) ∧ Below w.heap.size w w' := by
  have HI := Lib.hid hI
  have HV := Lib.hid (rz_false zs)
  clear hI
  go_enter Tryz.func35, Tryz.ntmps35
  go_wp2_with (go_at_call 69; refine HI.out.mono ?_; rintro e w1 ⟨v, rfl, ho, hb⟩; refine Hid.out ?_)
  refine Lib.hid ?_
  have ac := Below.next (a := w) (by go_grown) hb
  have c0 := cell_below (a := ⟨w.heap.size, 0, none⟩) (v := .int .i64 0) (by go_cell) hb
  have c1 := cell_below (a := ⟨w.heap.size, 1, none⟩) (v := .int .i64 0) (by go_cell) hb
  have f0 := frozen_belowR (a := ⟨w.heap.size, 0, none⟩) (by go_simp) (by simp) hb
  have f1 := frozen_belowR (a := ⟨w.heap.size, 1, none⟩) (by go_simp) (by simp) hb
  have s0 : w.heap.size < w1.heap.size := by have := hb.size; simp at this; omega
  have ho2 := own_mono ho (show w.heap.size ≤ _ by simp)
  clear hb ho
  clear ho2
  go_wp2_with (fail)
  refine bodyPost_ret (v := .tuple #[.agg #[.int .i64 0, .int .i64 0], .bool false]) (by simp [results, Tryz.results35, go_sem, *]) rfl ⟨by rw [HV.out], by go_grown⟩

theorem readpoint_len (s : ByteArray) (zs : List Int) (w : World) (h : zs.length ≠ 2) (hI : Calls Tryz.prog 69 #[.string s] (w.alloc (.cells #[.int .i64 0, .int .i64 0] 44)) (RL zs true (w.alloc (.cells #[.int .i64 0, .int .i64 0] 44)))) :
    Calls Tryz.prog 35 #[.string s] w fun e w' => e = .returned (.tuple #[.agg #[.int .i64 (rzV true zs).1.1, .int .i64 (rzV true zs).1.2], .bool (rzV true zs).2]) ∧ Below w.heap.size w w' := by
  have HI := Lib.hid hI
  have HV := Lib.hid (rz_no true zs h)
  have hl : ((zs.length : Int) == 2) = false := by simp; omega
  have hl0 : ((0 : Int) == 2) = false := by decide
  clear hI h
  go_enter Tryz.func35, Tryz.ntmps35
  go_wp2_with (go_at_call 69; refine HI.out.mono ?_; rintro e w1 ⟨v, rfl, ho, hb⟩; refine Hid.out ?_)
  refine Lib.hid ?_
  have ac := Below.next (a := w) (by go_grown) hb
  have c0 := cell_below (a := ⟨w.heap.size, 0, none⟩) (v := .int .i64 0) (by go_cell) hb
  have c1 := cell_below (a := ⟨w.heap.size, 1, none⟩) (v := .int .i64 0) (by go_cell) hb
  have f0 := frozen_belowR (a := ⟨w.heap.size, 0, none⟩) (by go_simp) (by simp) hb
  have f1 := frozen_belowR (a := ⟨w.heap.size, 1, none⟩) (by go_simp) (by simp) hb
  have s0 : w.heap.size < w1.heap.size := by have := hb.size; simp at this; omega
  have ho2 := own_mono ho (show w.heap.size ≤ _ by simp)
  clear hb ho
  rcases own_form ho2 with ⟨rfl, _⟩ | ⟨g, cap, rfl, _⟩
  · clear ho2
    go_wp2_with (fail)
    refine bodyPost_ret (v := .tuple #[.agg #[.int .i64 0, .int .i64 0], .bool false]) (by simp [results, Tryz.results35, go_sem, *]) rfl ⟨by rw [HV.out], by go_grown⟩
  · clear ho2
    go_wp2_with (fail)
    refine bodyPost_ret (v := .tuple #[.agg #[.int .i64 0, .int .i64 0], .bool false]) (by simp [results, Tryz.results35, go_sem, *]) rfl ⟨by rw [HV.out], by go_grown⟩

set_option maxHeartbeats 1000000 in
theorem readpoint_two0 (s : ByteArray) (x y : Int) (w : World) (h : inB 0 200000 [x, y] = false) (hI : Calls Tryz.prog 69 #[.string s] (w.alloc (.cells #[.int .i64 0, .int .i64 0] 44)) (RL [x, y] true (w.alloc (.cells #[.int .i64 0, .int .i64 0] 44)))) :
    Calls Tryz.prog 35 #[.string s] w fun e w' => e = .returned (.tuple #[.agg #[.int .i64 (rzV true [x, y]).1.1, .int .i64 (rzV true [x, y]).1.2], .bool (rzV true [x, y]).2]) ∧ Below w.heap.size w w' := by
  have HI := Lib.hid hI
  have HV := Lib.hid (show rzV true [x, y] = ((0, 0), false) by simp [rzV, h])
  clear hI
  go_enter Tryz.func35, Tryz.ntmps35
  go_wp2_with (go_at_call 69; refine HI.out.mono ?_; rintro e w1 ⟨v, rfl, ho, hb⟩; refine Hid.out ?_)
  refine Lib.hid ?_
  have ac := Below.next (a := w) (by go_grown) hb
  have c0 := cell_below (a := ⟨w.heap.size, 0, none⟩) (v := .int .i64 0) (by go_cell) hb
  have c1 := cell_below (a := ⟨w.heap.size, 1, none⟩) (v := .int .i64 0) (by go_cell) hb
  have f0 := frozen_belowR (a := ⟨w.heap.size, 0, none⟩) (by go_simp) (by simp) hb
  have f1 := frozen_belowR (a := ⟨w.heap.size, 1, none⟩) (by go_simp) (by simp) hb
  have s0 : w.heap.size < w1.heap.size := by have := hb.size; simp at this; omega
  have ho2 := own_mono ho (show w.heap.size ≤ _ by simp)
  clear hb ho
  obtain ⟨g, cap, rfl, _, _⟩ := ho2.form (by simp)
  have k0 := ho2.cellAt 0 (by simp)
  have k1 := ho2.cellAt 1 (by simp)
  simp [intV] at k0 k1
  clear ho2
  go_wp2_with (fail)
  go_region_held3 (fun w' => w'.cell? ⟨g, 0, none⟩ = some (.int .i64 x) ∧ w'.cell? ⟨g, 1, none⟩ = some (.int .i64 y) ∧ Below w1.heap.size w1 w')
    (first | assumption | exact keep2 (by assumption) (by assumption) | exact drew2 (by assumption) | exact keepA2 (by assumption) | exact drew2 (keepA2 (by assumption)) | ((refine keepP2 ?_ ?_ ?_ (by assumption)) <;> (first | omega | (simp; done) | (simp; omega))) | ((refine keepX2 ?_ ?_ ?_ (by assumption)) <;> (first | omega | (simp; done) | (simp; omega))) | ((refine drew2 (keepX2 ?_ ?_ ?_ (by assumption))) <;> (first | omega | (simp; done) | (simp; omega))) | (refine ⟨?_, ?_, ?_⟩ <;> (first | (go_cell; done) | (go_grown; done))))
    (first
      | fail)
  all_goals
    go_split_ands
    go_wp2_with (go_at_call 53; refine (ok_any _ _ _).mono ?_; rintro e w3 ⟨rfl, hb⟩; have ac4 := Below.next (a := w) (by go_grown) hb; have c4 := cell_below (a := ⟨w.heap.size, 0, none⟩) (v := .int .i64 0) (by go_cell) hb; have c5 := cell_below (a := ⟨w.heap.size, 1, none⟩) (v := .int .i64 0) (by go_cell) hb; have f4 := frozen_belowR (a := ⟨w.heap.size, 0, none⟩) (by go_simp) (by first | omega | (simp; omega)) hb; have f5 := frozen_belowR (a := ⟨w.heap.size, 1, none⟩) (by go_simp) (by first | omega | (simp; omega)) hb; have hq := new2d hb; obtain ⟨q0, q1, q2, q3, q4⟩ := hq)
    refine bodyPost_ret (v := .tuple #[.agg #[.int .i64 0, .int .i64 0], .bool false]) (by simp [results, Tryz.results35, go_sem, *]) rfl ⟨by rw [HV.out], by go_grown⟩

set_option maxHeartbeats 1000000 in
theorem readpoint_two1 (s : ByteArray) (x y : Int) (w : World) (h : inB 0 200000 [x, y] = true) (hI : Calls Tryz.prog 69 #[.string s] (w.alloc (.cells #[.int .i64 0, .int .i64 0] 44)) (RL [x, y] true (w.alloc (.cells #[.int .i64 0, .int .i64 0] 44)))) :
    Calls Tryz.prog 35 #[.string s] w fun e w' => e = .returned (.tuple #[.agg #[.int .i64 (rzV true [x, y]).1.1, .int .i64 (rzV true [x, y]).1.2], .bool (rzV true [x, y]).2]) ∧ Below w.heap.size w w' := by
  have HI := Lib.hid hI
  have HV := Lib.hid (show rzV true [x, y] = ((x, y), true) by simp [rzV, h])
  clear hI
  go_enter Tryz.func35, Tryz.ntmps35
  go_wp2_with (go_at_call 69; refine HI.out.mono ?_; rintro e w1 ⟨v, rfl, ho, hb⟩; refine Hid.out ?_)
  refine Lib.hid ?_
  have ac := Below.next (a := w) (by go_grown) hb
  have c0 := cell_below (a := ⟨w.heap.size, 0, none⟩) (v := .int .i64 0) (by go_cell) hb
  have c1 := cell_below (a := ⟨w.heap.size, 1, none⟩) (v := .int .i64 0) (by go_cell) hb
  have f0 := frozen_belowR (a := ⟨w.heap.size, 0, none⟩) (by go_simp) (by simp) hb
  have f1 := frozen_belowR (a := ⟨w.heap.size, 1, none⟩) (by go_simp) (by simp) hb
  have s0 : w.heap.size < w1.heap.size := by have := hb.size; simp at this; omega
  have ho2 := own_mono ho (show w.heap.size ≤ _ by simp)
  clear hb ho
  obtain ⟨g, cap, rfl, _, _⟩ := ho2.form (by simp)
  have k0 := ho2.cellAt 0 (by simp)
  have k1 := ho2.cellAt 1 (by simp)
  simp [intV] at k0 k1
  clear ho2
  go_wp2_with (fail)
  go_region_held3 (fun w' => w'.cell? ⟨g, 0, none⟩ = some (.int .i64 x) ∧ w'.cell? ⟨g, 1, none⟩ = some (.int .i64 y) ∧ Below w1.heap.size w1 w')
    (first | assumption | exact keep2 (by assumption) (by assumption) | exact drew2 (by assumption) | exact keepA2 (by assumption) | exact drew2 (keepA2 (by assumption)) | ((refine keepP2 ?_ ?_ ?_ (by assumption)) <;> (first | omega | (simp; done) | (simp; omega))) | ((refine keepX2 ?_ ?_ ?_ (by assumption)) <;> (first | omega | (simp; done) | (simp; omega))) | ((refine drew2 (keepX2 ?_ ?_ ?_ (by assumption))) <;> (first | omega | (simp; done) | (simp; omega))) | (refine ⟨?_, ?_, ?_⟩ <;> (first | (go_cell; done) | (go_grown; done))))
    (first
      | fail)
  all_goals
    go_split_ands
    go_wp2_with (go_at_call 53; refine (ok_any _ _ _).mono ?_; rintro e w3 ⟨rfl, hb⟩; have ac4 := Below.next (a := w) (by go_grown) hb; have c4 := cell_below (a := ⟨w.heap.size, 0, none⟩) (v := .int .i64 0) (by go_cell) hb; have c5 := cell_below (a := ⟨w.heap.size, 1, none⟩) (v := .int .i64 0) (by go_cell) hb; have f4 := frozen_belowR (a := ⟨w.heap.size, 0, none⟩) (by go_simp) (by first | omega | (simp; omega)) hb; have f5 := frozen_belowR (a := ⟨w.heap.size, 1, none⟩) (by go_simp) (by first | omega | (simp; omega)) hb; have hq := new2d hb; obtain ⟨q0, q1, q2, q3, q4⟩ := hq)
    refine bodyPost_ret (v := .tuple #[.agg #[.int .i64 x, .int .i64 y], .bool true]) (by simp [results, Tryz.results35, go_sem, *]) rfl ⟨by rw [HV.out], by go_grown⟩
end Go.Proofs.YtlelcecbpahliaaGreatDoor
