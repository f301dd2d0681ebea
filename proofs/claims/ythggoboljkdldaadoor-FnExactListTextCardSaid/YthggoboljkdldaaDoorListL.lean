/- The law of the text of a list. -/
import Derived.Test.YthggoboljkdldaaDoorListI
import Derived.Test.YthggoboljkdldaaDoorArgI
namespace Go.Proofs.YthggoboljkdldaaDoor
open Go.ChangeShapes Go.WideShapes Go.ChangeAt Go.RowKit Pm

theorem listtext_law (sv : Value) (zs : List Int) (w : World) (hs : ArgInts .i64 w sv zs) (hL : laidMetH Tryd.prog Rows.fnExactListTextRow.laid w) :
    Calls Tryd.prog 11 #[sv] w fun e w' => e = .returned (.bool true) ∧ Below w.heap.size w w' := by
  rw [MakeChecks.laidMetH_plain _ _ _ (by kernel_rfl)] at hL
  have hp := Lib.hid (pow_of hL)
  clear hL
  have HA := Lib.hid hs
  obtain ⟨a, c, rfl⟩ := hs.len
  clear hs
  by_cases hl : zs.length ≤ 1048576
  · obtain ⟨t, ht⟩ : ∃ t : ByteArray, t = ⟨(listT zs).toArray⟩ := ⟨_, rfl⟩
    have HS := Lib.hid (fun v w h => slisttext_any v zs w h)
    have HI := Lib.hid (fun v w h hp => listtext_any v zs w h hp)
    rw [← ht] at HS HI
    clear ht
    go_enter Tryd.func11, Tryd.ntmps11
    go_wp2_with (go_at_call 36; refine (copy_any _ zs _ HA.out hl).mono ?_; rintro e w1 ⟨v1, rfl, h1, b1⟩; refine Hid.out ?_)
    refine Lib.hid ?_
    have H1 := Lib.hid h1
    have B1 := Lib.hid b1
    clear h1 b1
    go_wp2_with (go_at_call 35; refine (HS.out _ _ H1.out).mono ?_; rintro e w2 ⟨rfl, b2⟩; refine Hid.out ?_)
    refine Lib.hid ?_
    have B2 := Lib.hid (B1.out.trans (b2.mono B1.out.size))
    clear b2
    go_wp2_with (go_at_call 36; refine (copy_any _ zs _ (HA.out.below B2.out) hl).mono ?_; rintro e w3 ⟨v2, rfl, h2, b3⟩; refine Hid.out ?_)
    refine Lib.hid ?_
    have H2 := Lib.hid h2
    have B3 := Lib.hid (B2.out.trans (b3.mono B2.out.size))
    clear h2 b3
    go_wp2_with (go_at_call 37; refine (HI.out _ _ H2.out (PowAt.below hp.out B3.out)).mono ?_; rintro e w4 ⟨rfl, b4⟩; refine Hid.out ?_)
    refine Lib.hid ?_
    have H2' := Lib.hid (H2.out.below b4)
    have B4 := Lib.hid (B3.out.trans (b4.mono B3.out.size))
    clear b4
    go_wp2_with (go_at_call 36; refine (copy_any _ zs _ (HA.out.below B4.out) hl).mono ?_; rintro e w5 ⟨v3, rfl, h3, b5⟩; refine Hid.out ?_)
    refine Lib.hid ?_
    have H3 := Lib.hid h3
    have H2'' := Lib.hid (H2'.out.below b5)
    have B5 := Lib.hid (B4.out.trans (b5.mono B4.out.size))
    clear h3 b5
    go_wp2_with (go_at_call 38; refine (eqints_same _ _ zs _ H2''.out H3.out).mono ?_; rintro e w6 ⟨rfl, n, rfl⟩)
    go_ret
    exact ⟨rfl, below_drewN B5.out n⟩
  · have hl2 : (1048576 : Int) < (zs.length : Int) := by omega
    clear hl
    go_enter Tryd.func11, Tryd.ntmps11
    go_wp2
    go_ret
    exact ⟨rfl, Below.refl _ _⟩
end Go.Proofs.YthggoboljkdldaaDoor
