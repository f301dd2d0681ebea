/- The law of FogText. -/
import Derived.Test.YtbfhnfoaipaljaaDoorFogA
import Derived.Test.YtbfhnfoaipaljaaDoorFgtS
namespace Go.Proofs.YtbfhnfoaipaljaaDoor
open Go.ChangeShapes Go.WideShapes Go.ChangeAt Go.RowKit Pm

set_option maxRecDepth 100000 in
theorem fogtext_law (k b p q : Int) (w : World) (hL : laidMetH Tryd.prog Rows.fnExactFogTextRow.laid w) :
    Calls Tryd.prog 13 #[.agg #[.int .i64 k, .int .i64 b, .int .i64 p, .int .i64 q]] w fun e w' => e = .returned (.bool true) ∧ Below w.heap.size w w' := by
  rw [MakeChecks.laidMetH_plain _ _ _ (by kernel_rfl)] at hL
  have HF := Lib.hid (fogs_in hL (by kernel_rfl))
  obtain ⟨ea, ep, eq, hE⟩ := errs_in hL (by kernel_rfl) (by kernel_rfl)
  have HE := Lib.hid hE
  clear hE
  have HP := Lib.hid (pow_of hL)
  clear hL
  have HS := Lib.hid (fun w => sfogtext_any k b p q w)
  have HI := Lib.hid (fun w hF hE hP => fogtext_any k b p q ea ep eq w hF hE hP)
  obtain ⟨a, ha⟩ : ∃ x, x = fogText k b p q := ⟨_, rfl⟩
  rw [← ha] at HS HI
  clear ha
  have HT := Lib.hid (fun w => tofog_any k b p q w)
  have HB0 := Lib.hid (show Below w.heap.size w (w.alloc (.cells #[.int .i64 k, .int .i64 b, .int .i64 p, .int .i64 q] 25)) from (Below.refl _ _).alloc (Nat.le_refl _) _)
  go_enter Tryd.func13, Tryd.ntmps13
  go_wp2_with (go_at_call 18; refine (HT.out _).mono ?_; rintro e w1 ⟨rfl, hb⟩; refine Hid.out ?_)
  refine Lib.hid ?_
  have c0 : w1.cell? ⟨w.heap.size, 0, none⟩ = some (.int .i64 k) := cell_below (by simp) hb
  have c1 : w1.cell? ⟨w.heap.size, 1, none⟩ = some (.int .i64 b) := cell_below (by simp) hb
  have c2 : w1.cell? ⟨w.heap.size, 2, none⟩ = some (.int .i64 p) := cell_below (by simp) hb
  have c3 : w1.cell? ⟨w.heap.size, 3, none⟩ = some (.int .i64 q) := cell_below (by simp) hb
  have AC := Lib.hid (Below.next HB0.out hb)
  clear hb
  go_wp2_with (go_at_call 40; refine (HS.out _).mono ?_; rintro e w2 ⟨rfl, hb⟩; refine Hid.out ?_)
  refine Lib.hid ?_
  replace c0 := cell_below c0 hb
  replace c1 := cell_below c1 hb
  replace c2 := cell_below c2 hb
  replace c3 := cell_below c3 hb
  replace AC := Lib.hid (Below.next AC.out hb)
  clear hb
  go_wp2_with (go_at_call 18; refine (HT.out _).mono ?_; rintro e w3 ⟨rfl, hb⟩; refine Hid.out ?_)
  refine Lib.hid ?_
  replace c0 := cell_below c0 hb
  replace c1 := cell_below c1 hb
  replace c2 := cell_below c2 hb
  replace c3 := cell_below c3 hb
  replace AC := Lib.hid (Below.next AC.out hb)
  clear hb
  go_wp2_with (go_at_call 41; refine (HI.out _ (HF.out.below AC.out) (HE.out.below AC.out) (PowAt.below HP.out AC.out)).mono ?_; rintro e w4 ⟨rfl, hb⟩; refine Hid.out ?_)
  refine Lib.hid ?_
  replace c0 := cell_below c0 hb
  replace c1 := cell_below c1 hb
  replace c2 := cell_below c2 hb
  replace c3 := cell_below c3 hb
  replace AC := Lib.hid (Below.next AC.out hb)
  clear hb
  go_wp2
  go_ret
  exact ⟨rfl, AC.out⟩
end Go.Proofs.YtbfhnfoaipaljaaDoor
