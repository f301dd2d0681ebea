/- The law of SineTenths. -/
import Derived.Test.YtjjkbbcpihaphabDoorSunU
import Derived.Test.YtjjkbbcpihaphabDoorSunV
namespace Go.Proofs.YtjjkbbcpihaphabDoor
open Go.ChangeShapes Go.WideShapes Go.ChangeAt Go.RowKit Pm

theorem sinetenths_law (t : Int) (w : World) (hL : laidMetH Tryd.prog Rows.fnExactSineTenthsRow.laid w) :
    Calls Tryd.prog 4 #[.int .i64 t] w fun e w' => e = .returned (.bool true) ∧ Below w.heap.size w w' := by
  have HT := Lib.hid (sines_of hL)
  clear hL
  have HS := fun w => ssinetenths_any t w
  have HI := fun w hS => sinetenths_any t w hS
  obtain ⟨z, ez⟩ : ∃ z, z = sineTV t := ⟨_, rfl⟩
  rw [← ez] at HS HI
  clear ez
  have HS := Lib.hid HS
  have HI := Lib.hid HI
  go_enter Tryd.func4, Tryd.ntmps4
  go_wp2_with (first
    | (go_at_call 24; refine (HS.out _).mono ?_; rintro e w1 ⟨rfl, hb⟩)
    | (go_at_call 25; refine (HI.out _ (HT.out.below hb)).mono ?_; rintro e w2 ⟨rfl, hb2⟩))
  go_ret
  exact ⟨rfl, by first | exact Below.next hb hb2 | go_grown⟩
end Go.Proofs.YtjjkbbcpihaphabDoor
