/- The law of KindText. -/
import Derived.Test.YthggoboljkdldaaDoorKndT
namespace Go.Proofs.YthggoboljkdldaaDoor
open Go.ChangeShapes Go.WideShapes Go.ChangeAt Go.RowKit Pm

theorem kindtext_law (k : Int) (w : World) (hL : laidMetH Tryd.prog Rows.fnExactKindTextRow.laid w) :
    Calls Tryd.prog 3 #[.int .i64 k] w fun e w' => e = .returned (.bool true) ∧ Below w.heap.size w w' := by
  rw [MakeChecks.laidMetH_plain _ _ _ (by kernel_rfl)] at hL
  have HK := Lib.hid (kinds_of hL)
  clear hL
  have HS := Lib.hid (fun w => skindtext_any k w)
  have HI := Lib.hid (fun w hK => kindtext_any k w hK)
  obtain ⟨s, hs⟩ : ∃ s, s = kindText k := ⟨_, rfl⟩
  rw [← hs] at HS HI
  clear hs
  go_enter Tryd.func3, Tryd.ntmps3
  go_wp2_with (first
    | (go_at_call 12; refine (HS.out _).mono ?_; rintro e w1 ⟨rfl, hb1⟩)
    | (go_at_call 13; refine (HI.out _ (HK.out.below hb1)).mono ?_; rintro e w2 ⟨rfl, hb2⟩))
  go_ret
  exact ⟨rfl, Below.next hb1 hb2⟩
end Go.Proofs.YthggoboljkdldaaDoor
