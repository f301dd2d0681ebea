/- The law of FlashLength. -/
import Derived.Test.YthggoboljkdldaaDoorKndT
namespace Go.Proofs.YthggoboljkdldaaDoor
open Go.ChangeShapes Go.WideShapes Go.ChangeAt Go.RowKit Pm

theorem flashlength_law (k : Int) (w : World) (hL : laidMetH Tryd.prog Rows.fnExactFlashLengthRow.laid w) :
    Calls Tryd.prog 5 #[.int .i64 k] w fun e w' => e = .returned (.bool true) ∧ Below w.heap.size w w' := by
  rw [MakeChecks.laidMetH_plain _ _ _ (by kernel_rfl)] at hL
  have HK := Lib.hid (kinds_of hL)
  clear hL
  have HS := Lib.hid (fun w => sflashlen_any k w)
  have HI := Lib.hid (fun w hK => flashlength_any k w hK)
  obtain ⟨f, hf⟩ : ∃ f, f = flashLen k := ⟨_, rfl⟩
  rw [← hf] at HS HI
  clear hf
  obtain ⟨z, hz⟩ : ∃ z : Int, z = (if f = 0 then 2 else 0) := ⟨_, rfl⟩
  rw [← hz] at HS HI
  clear hz
  go_enter Tryd.func5, Tryd.ntmps5
  go_wp2_with (first
    | (go_at_call 19; refine (HS.out _).mono ?_; rintro e w1 ⟨rfl, hb1⟩)
    | (go_at_call 20; refine (HI.out _ (HK.out.below hb1)).mono ?_; rintro e w2 ⟨rfl, hb2⟩))
  go_ret
  exact ⟨rfl, Below.next hb1 hb2⟩
end Go.Proofs.YthggoboljkdldaaDoor
