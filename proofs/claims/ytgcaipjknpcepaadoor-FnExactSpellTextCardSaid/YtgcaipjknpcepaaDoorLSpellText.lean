/- The law of SpellText. -/
import Derived.Test.YtgcaipjknpcepaaDoorSpi
import Derived.Stop.LaidErr
namespace Go.Proofs.YtgcaipjknpcepaaDoor
open Go.ChangeShapes Go.WideShapes Go.ChangeAt Go.RowKit Pm

set_option maxHeartbeats 1000000 in
theorem spelltext_law (s : ByteArray) (w0 : s.size ≤ maxLen) (w : World) (hL : laidMetH Tryd.prog Rows.fnExactSpellTextRow.laid w) (hsh : w.ShapedOpen Tryd.prog) :
    Calls Tryd.prog 9 #[.string s] w fun e w' => e = .returned (.bool true) ∧ Below w.heap.size w w' := by
  rw [MakeChecks.laidMetH_plain _ _ _ (by kernel_rfl)] at hL
  have HT := Lib.hid (signs_of hL.tail)
  clear hL
  unfold maxLen at w0
  have HN := Lib.hid (len_of hsh)
  clear hsh
  by_cases hl : s.size ≤ 1048576
  · have HS := Lib.hid (fun w => sspell_any s w hl)
    have HI := Lib.hid (fun w h h2 => spell_any s w h h2)
    obtain ⟨u, hu⟩ : ∃ u, u = splV s := ⟨_, rfl⟩
    obtain ⟨z, hz⟩ : ∃ z, z = splC s := ⟨_, rfl⟩
    rw [← hu, ← hz] at HS HI
    clear hu hz
    go_enter Tryd.func9, Tryd.ntmps9
    go_wp2_with (first
      | (go_at_call 30; refine (HS.out _).mono ?_; rintro e w1 ⟨rfl, hb⟩)
      | (go_at_call 31; refine (HI.out _ (LenAt.below HN.out hb) (HT.out.below hb)).mono ?_; rintro e w2 ⟨rfl, hb2⟩))
    go_ret
    exact ⟨rfl, Below.next hb hb2⟩
  · have hl2 : (1048576 : Int) < (s.size : Int) := by omega
    clear hl
    go_enter Tryd.func9, Tryd.ntmps9
    go_wp2
    go_ret
    exact ⟨rfl, Below.refl _ _⟩
end Go.Proofs.YtgcaipjknpcepaaDoor
