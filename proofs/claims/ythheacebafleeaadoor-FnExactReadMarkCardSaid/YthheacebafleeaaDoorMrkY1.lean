/- Texts of marks: the model's, with a topmark. -/
import Derived.Test.YthheacebafleeaaDoorMrkW
import Derived.Test.YthheacebafleeaaDoorMrkK
import Derived.Test.YthheacebafleeaaDoorMrkO
import Derived.Deep.RegionHeld3
namespace Go.Proofs.YthheacebafleeaaDoor
open Go.ChangeShapes Go.WideShapes Go.ChangeAt Go.RowKit Pm

theorem names_at1 {P : Program} {args : Array Value} {f : FuncId} (r : Nat) (w : World)
    (h : Calls P f args w fun e w' => e = .returned (.slice (some ⟨w.heap.size, 0, none⟩) 10 10) ∧ (∀ r : Nat, r < 10 → w'.cell? ⟨w.heap.size, r, none⟩ = some (.string (mkF r 0))) ∧ Below w.heap.size w w') (hr : r < 10) :
    Calls P f args w fun e w' => ∃ g, e = .returned (.slice (some ⟨g, 0, none⟩) 10 10) ∧ w'.cell? ⟨g, r, none⟩ = some (.string (mkF r 0)) ∧ w.heap.size ≤ g ∧ Below w.heap.size w w' := by
  refine h.mono ?_
  rintro e w' ⟨he, hc, hb⟩
  exact ⟨_, he, hc r hr, Nat.le_refl _, hb⟩
theorem sretS1 {a b : ByteArray} (h : a = b) : Ending.returned (.string a) = .returned (.string b) := by rw [h]
set_option maxRecDepth 100000 in
set_option maxHeartbeats 16000000 in
theorem stext_false (B r : Nat) (c s t tp : ByteArray) (w : World) (hk : (r : Int) ≠ 0) (hr9 : r < 10) (zc : c.size ≤ 30) (zs : s.size ≤ 30) (zt : tp.size ≤ 30) (ht : (t.toList == []) = false) (htp : tp = t)
    (c0 : w.cell? ⟨B, 0, none⟩ = some (.int .i64 (r : Int))) (c1 : w.cell? ⟨B, 1, none⟩ = some (.string c)) (c2 : w.cell? ⟨B, 2, none⟩ = some (.string s)) (c3 : w.cell? ⟨B, 3, none⟩ = some (.string t)) :
    Calls Tryd.prog 49 #[.pointer (some ⟨B, 0, none⟩)] w fun e w' => e = .returned (.string (fourT (mkF (r : Int) 0) c s tp)) ∧ Below w.heap.size w w' := by
  have hr10 : (r : Int) < 10 := by omega
  have hr0 : ((r : Int) == 0) = false := beq_eq_false_iff_ne.2 hk
  have zn := mkF_size (r : Int) 0
  have HN := Lib.hid (fun w' => names_at1 r w' (slnames_any w') hr9)
  generalize mkF (r : Int) 0 = nm at *
  have HE := Lib.hid (show nm ++ ⟨#[32]⟩ ++ c ++ ⟨#[32]⟩ ++ s ++ ⟨#[32]⟩ ++ tp = fourT nm c s tp from rfl)
  have q1 := fun w => run_string_add_sum (P := Tryd.prog) (w := w) nm ⟨#[32]⟩ (by rw [one_size]; omega)
  have q2 := fun w => run_string_add_sum (P := Tryd.prog) (w := w) (nm ++ ⟨#[32]⟩) c (by simp only [ByteArray.size_append, one_size]; omega)
  have q3 := fun w => run_string_add_sum (P := Tryd.prog) (w := w) (nm ++ ⟨#[32]⟩ ++ c) ⟨#[32]⟩ (by simp only [ByteArray.size_append, one_size]; omega)
  have q4 := fun w => run_string_add_sum (P := Tryd.prog) (w := w) (nm ++ ⟨#[32]⟩ ++ c ++ ⟨#[32]⟩) s (by simp only [ByteArray.size_append, one_size]; omega)
  have q5 := fun w => run_string_add_sum (P := Tryd.prog) (w := w) (nm ++ ⟨#[32]⟩ ++ c ++ ⟨#[32]⟩ ++ s) ⟨#[32]⟩ (by simp only [ByteArray.size_append, one_size]; omega)
  have q6 := fun w => run_string_add_sum (P := Tryd.prog) (w := w) (nm ++ ⟨#[32]⟩ ++ c ++ ⟨#[32]⟩ ++ s ++ ⟨#[32]⟩) tp (by simp only [ByteArray.size_append, one_size]; omega)
  have ac0 : Below w.heap.size w w := Below.refl _ _
  generalize fourT nm c s tp = four at *
  subst tp
  clear zn zc zs zt hk hr9
  go_enter Tryd.func49, Tryd.ntmps49
  go_wp2_with (fail)
  go_region_with (first
    | (go_at_call 34; (with_reducible refine (HN.out _).mono ?_); rintro e w2 ⟨g, rfl, hst, hg, hb⟩; have d0 := cell_below (a := ⟨B, 0, none⟩) (v := .int .i64 (r : Int)) (by first | assumption | go_cell) hb; have d1 := cell_below (a := ⟨B, 1, none⟩) (v := .string c) (by first | assumption | go_cell) hb; have d2 := cell_below (a := ⟨B, 2, none⟩) (v := .string s) (by first | assumption | go_cell) hb; have d3 := cell_below (a := ⟨B, 3, none⟩) (v := .string t) (by first | assumption | go_cell) hb; have AC2 := Lib.hid (Below.next (show Below w.heap.size w _ from ac0.drew) hb); clear hb))
  all_goals
    go_simp
    go_wp2_with (fail)
    go_ret
    exact ⟨sretS1 HE.out, AC2.out⟩
end Go.Proofs.YthheacebafleeaaDoor
