/- Is a mark valid? The program's, its color being right, its shape wrong. -/
import Derived.Test.YthheacebafleeaaDoorMrkF
import Derived.Test.YthheacebafleeaaDoorMrkE
import Derived.Test.YthheacebafleeaaDoorClx
namespace Go.Proofs.YthheacebafleeaaDoor
open Go.ChangeShapes Go.WideShapes Go.ChangeAt Go.RowKit Pm

set_option maxRecDepth 100000 in
set_option maxHeartbeats 4000000 in
theorem valid_false (k : Int) (c s t s0 s1 s2 s3 s4 s5 s6 : ByteArray) (zs : List ByteArray) (m : Nat) (w : World)
    (HR : ∀ w', Below w.heap.size w w' → Calls Tryd.prog 35 #[.int .i64 k] w' fun e w'' => e = .returned (.agg #[.string s0, .string s1, .string s2, .string s3, .string s4, .string s5, .string s6]) ∧ Below w'.heap.size w' w'')
    (HN : ∀ w', Below w.heap.size w w' → Calls Tryd.prog 42 #[.agg #[.string s0, .string s1, .string s2, .string s3, .string s4, .string s5, .string s6]] w' fun e w'' => ∃ n, e = .returned (.slice (some ⟨n, 0, none⟩) m m) ∧ StrsAt w'' n zs ∧ w'.heap.size ≤ n ∧ Below w'.heap.size w' w'')
    (hEq : ∀ w, (binOp .eql 28 (.agg #[.int .i64 k, .string c, .string s, .string t]) (.agg #[.int .i64 0, .string ⟨#[]⟩, .string ⟨#[]⟩, .string ⟨#[]⟩])).run Tryd.prog w = .ok (.bool false) w)
    (HCT : ∀ n w', StrsAt w' n zs → Calls Tryd.prog 44 #[.slice (some ⟨n, 0, none⟩) m m, .string s] w' fun e w'' => e = .returned (.bool false) ∧ w' = w'')
    (hc : (c.toList == s1.toList) = true) :
    Calls Tryd.prog 21 #[.agg #[.int .i64 k, .string c, .string s, .string t]] w fun e w' => e = .returned (.bool false) ∧ Below w.heap.size w w' := by
  replace HR := Lib.hid HR
  replace HN := Lib.hid HN
  replace HCT := Lib.hid HCT
  go_enter Tryd.func21, Tryd.ntmps21
  go_wp2_with (go_at_call 35; refine (HR.out _ (by go_grown)).mono ?_; rintro e w1 ⟨rfl, hb⟩; refine Hid.out ?_)
  refine Lib.hid ?_
  have c0 : w1.cell? ⟨w.heap.size, 0, none⟩ = some (.int .i64 k) := cell_below (by simp) hb
  have c1 : w1.cell? ⟨w.heap.size, 1, none⟩ = some (.string c) := cell_below (by simp) hb
  have c2 : w1.cell? ⟨w.heap.size, 2, none⟩ = some (.string s) := cell_below (by simp) hb
  have c3 : w1.cell? ⟨w.heap.size, 3, none⟩ = some (.string t) := cell_below (by simp) hb
  have hsz : w.heap.size < w1.heap.size := by have := hb.size; simp at this; omega
  have HB1 := Lib.hid (Below.next (a := w) (by go_grown) hb)
  clear hb hEq HR
  go_wp2_with (fail)
  first | (go_region_with (first
    | (go_at_call 42; (with_reducible refine (HN.out _ (Below.next HB1.out (by go_grown))).mono ?_); rintro e w2 ⟨n, rfl, hst, hn, hb⟩; have d02 := cell_below (a := ⟨w.heap.size, 2, none⟩) (v := .string s) (by first | assumption | go_cell) hb; have d03 := cell_below (a := ⟨w.heap.size, 3, none⟩) (v := .string t) (by first | assumption | go_cell) hb; have d10 := cell_below (a := ⟨w1.heap.size, 0, none⟩) (v := .string s0) (by first | assumption | go_cell) hb; have d11 := cell_below (a := ⟨w1.heap.size, 1, none⟩) (v := .string s1) (by first | assumption | go_cell) hb; have d12 := cell_below (a := ⟨w1.heap.size, 2, none⟩) (v := .string s2) (by first | assumption | go_cell) hb; have d13 := cell_below (a := ⟨w1.heap.size, 3, none⟩) (v := .string s3) (by first | assumption | go_cell) hb; have d14 := cell_below (a := ⟨w1.heap.size, 4, none⟩) (v := .string s4) (by first | assumption | go_cell) hb; have d15 := cell_below (a := ⟨w1.heap.size, 5, none⟩) (v := .string s5) (by first | assumption | go_cell) hb; have d16 := cell_below (a := ⟨w1.heap.size, 6, none⟩) (v := .string s6) (by first | assumption | go_cell) hb; have ac := Below.next HB1.out (Below.next (a := w1) (by go_grown) hb); have hz1 : w1.heap.size < w2.heap.size := (by have h := hb.size; simp at h; omega); have hz0 : w.heap.size < w2.heap.size := (by omega); clear hb)
    | (go_at_call 44; (with_reducible refine (HCT.out _ _ (by assumption)).mono ?_); rintro e w3 ⟨rfl, rfl⟩))) | fail
  all_goals
    go_wp2_with (fail)
    go_ret
    exact ⟨rfl, by go_grown⟩
end Go.Proofs.YthheacebafleeaaDoor
