/- The law of BlastsOf. -/
import Derived.Test.YtbfhnfoaipaljaaDoorFogA
import Derived.Test.YtbfhnfoaipaljaaDoorTimI
import Derived.Test.YtbfhnfoaipaljaaDoorTimS
namespace Go.Proofs.YtbfhnfoaipaljaaDoor
open Go.ChangeShapes Go.WideShapes Go.ChangeAt Go.RowKit Pm

set_option maxRecDepth 100000 in
set_option maxHeartbeats 1000000 in
theorem blastsof_law (k b p q : Int) (w : World) (hL : laidMetH Tryd.prog Rows.fnExactBlastsOfRow.laid w) :
    Calls Tryd.prog 7 #[.agg #[.int .i64 k, .int .i64 b, .int .i64 p, .int .i64 q]] w fun e w' => e = .returned (.bool true) ∧ Below w.heap.size w w' := by
  rw [MakeChecks.laidMetH_plain _ _ _ (by kernel_rfl)] at hL
  have HF := Lib.hid (fogs_in hL (by kernel_rfl))
  obtain ⟨ea, ep, eq, hE⟩ := errs_in hL (by kernel_rfl) (by kernel_rfl)
  have HE := Lib.hid hE
  clear hE
  clear hL
  have hn := rowsN_le k b p q
  have HS := Lib.hid (fun w => sblastsof_any k b p q w)
  have HI := Lib.hid (fun w hF hE => blastsof_any k b p q ea ep eq w hF hE)
  obtain ⟨n, en⟩ : ∃ x, x = rowsN k b p q := ⟨_, rfl⟩
  obtain ⟨c, ec⟩ : ∃ x, x = rowsC k b p q := ⟨_, rfl⟩
  obtain ⟨ff, ef⟩ : ∃ x, x = blastF (fogLen k) := ⟨_, rfl⟩
  rw [← en, ← ec, ← ef] at HS HI
  rw [← en] at hn
  clear en ec ef
  have hq : ¬ 1 + 2 * (n : Int) < 0 := by omega
  have HT := Lib.hid (fun w => tofog_any k b p q w)
  have HB0 := Lib.hid (show Below w.heap.size w (w.alloc (.cells #[.int .i64 k, .int .i64 b, .int .i64 p, .int .i64 q] 25)) from (Below.refl _ _).alloc (Nat.le_refl _) _)
  go_enter Tryd.func7, Tryd.ntmps7
  go_wp2_with (go_at_call 18; refine (HT.out _).mono ?_; rintro e w1 ⟨rfl, hb⟩; refine Hid.out ?_)
  refine Lib.hid ?_
  have c0 : w1.cell? ⟨w.heap.size, 0, none⟩ = some (.int .i64 k) := cell_below (by simp) hb
  have c1 : w1.cell? ⟨w.heap.size, 1, none⟩ = some (.int .i64 b) := cell_below (by simp) hb
  have c2 : w1.cell? ⟨w.heap.size, 2, none⟩ = some (.int .i64 p) := cell_below (by simp) hb
  have c3 : w1.cell? ⟨w.heap.size, 3, none⟩ = some (.int .i64 q) := cell_below (by simp) hb
  have AC := Lib.hid (Below.next HB0.out hb)
  clear hb
  go_wp2_with (go_at_call 24; refine (HS.out _).mono ?_; rintro e w2 ⟨v0, rfl, hr, hb⟩; refine Hid.out ?_)
  refine Lib.hid ?_
  replace c0 := cell_below c0 hb
  replace c1 := cell_below c1 hb
  replace c2 := cell_below c2 hb
  replace c3 := cell_below c3 hb
  replace AC := Lib.hid (Below.next AC.out hb)
  have V0 := Lib.hid hr
  clear hb hr
  go_wp2_with (go_at_call 18; refine (HT.out _).mono ?_; rintro e w3 ⟨rfl, hb⟩; refine Hid.out ?_)
  refine Lib.hid ?_
  replace c0 := cell_below c0 hb
  replace c1 := cell_below c1 hb
  replace c2 := cell_below c2 hb
  replace c3 := cell_below c3 hb
  replace AC := Lib.hid (Below.next AC.out hb)
  replace V0 := Lib.hid (V0.out.below hb)
  clear hb
  go_wp2_with (go_at_call 25; refine (HI.out _ (HF.out.below AC.out) (HE.out.below AC.out)).mono ?_; rintro e w4 ⟨v1, rfl, hr, hb⟩; refine Hid.out ?_)
  refine Lib.hid ?_
  have BA := Lib.hid hb
  have V1 := Lib.hid hr
  clear hb hr
  go_wp2_with (go_at_call 26; refine (eqrows_same _ _ _ _ n ff _ hn V1.out (V0.out.below BA.out)).mono ?_; rintro e w5 ⟨rfl, hb⟩; refine Hid.out ?_)
  refine Lib.hid ?_
  replace V1 := Lib.hid (V1.out.below hb)
  replace BA := Lib.hid (Below.next BA.out hb)
  clear hb
  go_wp2_with (go_at_call 27; refine (markrows_any _ _ n ff 1 _ hn (by omega) (by omega) V1.out).mono ?_; rintro e w6 ⟨rfl, hr, hb⟩; refine Hid.out ?_)
  refine Lib.hid ?_
  replace V1 := Lib.hid hr
  replace BA := Lib.hid (BA.out.trans hb)
  clear hb hr
  go_wp2_with (go_at_call 28; refine (heldrows_any _ _ n 1 _ hn (by omega) (by omega) V1.out).mono ?_; rintro e w7 ⟨rfl, rfl⟩; refine Hid.out ?_)
  refine Lib.hid ?_
  have d0 := cell_below c0 BA.out
  have d1 := cell_below c1 BA.out
  have d2 := cell_below c2 BA.out
  have d3 := cell_below c3 BA.out
  go_wp2_with (go_at_call 18; refine (HT.out _).mono ?_; rintro e w8 ⟨rfl, hb⟩; refine Hid.out ?_)
  refine Lib.hid ?_
  replace V1 := Lib.hid (V1.out.below hb)
  replace BA := Lib.hid (Below.next BA.out hb)
  clear hb
  go_wp2_with (go_at_call 25; refine (HI.out _ (HF.out.below (AC.out.trans (BA.out.mono AC.out.size))) (HE.out.below (AC.out.trans (BA.out.mono AC.out.size)))).mono ?_; rintro e w9 ⟨v2, rfl, hr, hb⟩; refine Hid.out ?_)
  refine Lib.hid ?_
  have V2 := Lib.hid hr
  replace V1 := Lib.hid (V1.out.below hb)
  replace BA := Lib.hid (Below.next BA.out hb)
  clear hb hr
  go_wp2_with (go_at_call 26; refine (eqrows_same _ _ _ _ n ff _ hn V2.out (V0.out.below BA.out)).mono ?_; rintro e w10 ⟨rfl, hb⟩; refine Hid.out ?_)
  refine Lib.hid ?_
  replace V1 := Lib.hid (V1.out.below hb)
  replace BA := Lib.hid (Below.next BA.out hb)
  clear hb
  go_wp2_with (go_at_call 28; refine (heldrows_any _ _ n 1 _ hn (by omega) (by omega) V1.out).mono ?_; rintro e w11 ⟨rfl, rfl⟩; refine Hid.out ?_)
  refine Lib.hid ?_
  go_wp2
  go_ret
  exact ⟨rfl, AC.out.trans (BA.out.mono AC.out.size)⟩
end Go.Proofs.YtbfhnfoaipaljaaDoor
