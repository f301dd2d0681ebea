/- The law of DeclinationOf. -/
import Derived.Test.YtjjkbbcpihaphabDoorSunU
import Derived.Test.YtjjkbbcpihaphabDoorSunV
namespace Go.Proofs.YtjjkbbcpihaphabDoor
open Go.ChangeShapes Go.WideShapes Go.ChangeAt Go.RowKit Pm

theorem declinationof_law (D : Int) (w : World) (hL : laidMetH Tryd.prog Rows.fnExactDeclinationOfRow.laid w) :
    Calls Tryd.prog 5 #[.int .i64 D] w fun e w' => e = .returned (.bool true) ∧ Below w.heap.size w w' := by
  have HT := Lib.hid (sines_of hL)
  clear hL
  cases h : inB 0 99999 [D]
  · have HS := Lib.hid (fun w => sdeclof_no D w h)
    have HI := Lib.hid (fun w (_ : SinesAt w) => decl_no D w h)
    clear h
    go_enter Tryd.func5, Tryd.ntmps5
    go_wp2_with (first
      | (go_at_call 26; refine (HS.out _).mono ?_; rintro e w1 ⟨rfl, hb⟩)
      | (go_at_call 27; refine (HI.out _ (HT.out.below hb)).mono ?_; rintro e w2 ⟨rfl, hb2⟩))
    go_ret
    exact ⟨rfl, by first | exact Below.next hb hb2 | go_grown⟩
  · have hb : 0 ≤ D ∧ D ≤ 99999 := by simpa [inB] using h
    obtain ⟨n, hn⟩ := doy_ex hb.1
    have HS := fun w => sdeclof_yes D n w hn hb.2
    have HI := fun w hS => decl_yes D n w hS hn hb.2
    obtain ⟨z, ez⟩ : ∃ z, z = declOf n := ⟨_, rfl⟩
    rw [← ez] at HS HI
    clear ez h hb hn
    have HS := Lib.hid HS
    have HI := Lib.hid HI
    go_enter Tryd.func5, Tryd.ntmps5
    go_wp2_with (first
      | (go_at_call 26; refine (HS.out _).mono ?_; rintro e w1 ⟨rfl, hb⟩)
      | (go_at_call 27; refine (HI.out _ (HT.out.below hb)).mono ?_; rintro e w2 ⟨rfl, hb2⟩))
    go_ret
    exact ⟨rfl, by first | exact Below.next hb hb2 | go_grown⟩
end Go.Proofs.YtjjkbbcpihaphabDoor
