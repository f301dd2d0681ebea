/- The law of LetterOf. -/
import Derived.Test.YtgcaipjknpcepaaDoorFnd
namespace Go.Proofs.YtgcaipjknpcepaaDoor
open Go.ChangeShapes Go.WideShapes Go.ChangeAt Go.RowKit Pm

set_option maxHeartbeats 1000000 in
theorem letterof_law (s : ByteArray) (w0 : s.size ≤ maxLen) (w : World) (hL : laidMetH Tryd.prog Rows.fnExactLetterOfRow.laid w) :
    Calls Tryd.prog 4 #[.string s] w fun e w' => e = .returned (.bool true) ∧ Below w.heap.size w w' := by
  rw [MakeChecks.laidMetH_plain _ _ _ (by kernel_rfl)] at hL
  have HT := Lib.hid (signs_of hL)
  clear hL
  unfold maxLen at w0
  by_cases hl : s.size ≤ 1048576
  · have HS := Lib.hid (fun w => sletterof_any s w)
    have HI := Lib.hid (fun w h => letterof_any s w h)
    obtain ⟨u, hu⟩ : ∃ u, u = findV s := ⟨_, rfl⟩
    obtain ⟨z, hz⟩ : ∃ z, z = finC s := ⟨_, rfl⟩
    rw [← hu, ← hz] at HS HI
    clear hu hz
    go_enter Tryd.func4, Tryd.ntmps4
    go_wp2_with (first
      | (go_at_call 15; refine (HS.out _).mono ?_; rintro e w1 ⟨rfl, hb⟩)
      | (go_at_call 16; refine (HI.out _ (HT.out.below hb)).mono ?_; rintro e w2 ⟨rfl, hb2⟩))
    go_ret
    exact ⟨rfl, Below.next hb hb2⟩
  · have hl2 : (1048576 : Int) < (s.size : Int) := by omega
    clear hl
    go_enter Tryd.func4, Tryd.ntmps4
    go_wp2
    go_ret
    exact ⟨rfl, Below.refl _ _⟩
end Go.Proofs.YtgcaipjknpcepaaDoor
