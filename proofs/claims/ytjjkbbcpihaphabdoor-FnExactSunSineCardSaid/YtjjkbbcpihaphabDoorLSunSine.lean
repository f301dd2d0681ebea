/- The law of SunSine. -/
import Derived.Test.YtjjkbbcpihaphabDoorSunU
import Derived.Test.YtjjkbbcpihaphabDoorSunV
namespace Go.Proofs.YtjjkbbcpihaphabDoor
open Go.ChangeShapes Go.WideShapes Go.ChangeAt Go.RowKit Pm

theorem sunsine_law (lat D mn : Int) (w : World) (hL : laidMetH Tryd.prog Rows.fnExactSunSineRow.laid w) :
    Calls Tryd.prog 6 #[.int .i64 lat, .int .i64 D, .int .i64 mn] w fun e w' => e = .returned (.bool true) ∧ Below w.heap.size w w' := by
  have HT := Lib.hid (sines_of hL)
  clear hL
  cases h : askB lat D
  · have HS := Lib.hid (fun w => ssunsine_no1 lat D mn w h)
    have HI := Lib.hid (fun w hS => sunsine_noA lat D mn w hS h)
    clear h
    go_enter Tryd.func6, Tryd.ntmps6
    go_wp2_with (first
      | (go_at_call 28; refine (HS.out _).mono ?_; rintro e w1 ⟨rfl, hb⟩)
      | (go_at_call 29; refine (HI.out _ (HT.out.below hb)).mono ?_; rintro e w2 ⟨rfl, hb2⟩))
    go_ret
    exact ⟨rfl, by first | exact Below.next hb hb2 | go_grown⟩
  · obtain ⟨n, hn⟩ := doy_ex (ask_out h).2.1
    cases hm : inB 0 1439 [mn]
    · have HS := Lib.hid (fun w => ssunsine_no2 lat D mn w h hm)
      have HI := Lib.hid (fun w hS => sunsine_noB lat D n mn w hS hn h hm)
      clear h hm hn
      go_enter Tryd.func6, Tryd.ntmps6
      go_wp2_with (first
        | (go_at_call 28; refine (HS.out _).mono ?_; rintro e w1 ⟨rfl, hb⟩)
        | (go_at_call 29; refine (HI.out _ (HT.out.below hb)).mono ?_; rintro e w2 ⟨rfl, hb2⟩))
      go_ret
      exact ⟨rfl, by first | exact Below.next hb hb2 | go_grown⟩
    · have HS := fun w => ssunsine_yes lat D n mn w hn h hm
      have HI := fun w hS => sunsine_in lat D n mn w hS hn h hm
      obtain ⟨z, ez⟩ : ∃ z, z = sunOf lat n (fromNoon mn) := ⟨_, rfl⟩
      rw [← ez] at HS HI
      clear ez h hm hn
      have HS := Lib.hid HS
      have HI := Lib.hid HI
      go_enter Tryd.func6, Tryd.ntmps6
      go_wp2_with (first
        | (go_at_call 28; refine (HS.out _).mono ?_; rintro e w1 ⟨rfl, hb⟩)
        | (go_at_call 29; refine (HI.out _ (HT.out.below hb)).mono ?_; rintro e w2 ⟨rfl, hb2⟩))
      go_ret
      exact ⟨rfl, by first | exact Below.next hb hb2 | go_grown⟩
end Go.Proofs.YtjjkbbcpihaphabDoor
