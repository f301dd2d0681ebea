/- The law of LettersLike. -/
import Derived.Test.YtgcaipjknpcepaaDoorLik
import Derived.Stop.LaidErr
namespace Go.Proofs.YtgcaipjknpcepaaDoor
open Go.ChangeShapes Go.WideShapes Go.ChangeAt Go.RowKit Pm

set_option maxHeartbeats 1000000 in
theorem letterslike_law (s : ByteArray) (w0 : s.size ≤ maxLen) (w : World) (hL : laidMetH Tryd.prog Rows.fnExactLettersLikeRow.laid w) :
    Calls Tryd.prog 6 #[.string s] w fun e w' => e = .returned (.bool true) ∧ Below w.heap.size w w' := by
  rw [MakeChecks.laidMetH_plain _ _ _ (by kernel_rfl)] at hL
  have HT := Lib.hid (signs_of hL.tail)
  clear hL
  unfold maxLen at w0
  by_cases hl : s.size ≤ 1048576
  · have HS := Lib.hid (fun w => sletterslike_any s w hl)
    have HI := Lib.hid (fun w h => letterslike_any s w hl h)
    obtain ⟨u, hu⟩ : ∃ u, u = likV s := ⟨_, rfl⟩
    obtain ⟨z, hz⟩ : ∃ z, z = likC s := ⟨_, rfl⟩
    rw [← hu, ← hz] at HS HI
    clear hu hz
    go_enter Tryd.func6, Tryd.ntmps6
    go_wp2_with (first
      | (go_at_call 19; refine (HS.out _).mono ?_; rintro e w1 ⟨rfl, hb⟩)
      | (go_at_call 20; refine (HI.out _ (HT.out.below hb)).mono ?_; rintro e w2 ⟨rfl, hb2⟩))
    go_ret
    exact ⟨rfl, Below.next hb hb2⟩
  · have hl2 : (1048576 : Int) < (s.size : Int) := by omega
    clear hl
    go_enter Tryd.func6, Tryd.ntmps6
    go_wp2
    go_ret
    exact ⟨rfl, Below.refl _ _⟩
end Go.Proofs.YtgcaipjknpcepaaDoor
