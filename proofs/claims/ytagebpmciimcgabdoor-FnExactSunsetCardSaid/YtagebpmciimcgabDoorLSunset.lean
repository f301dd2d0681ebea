/- The law of Sunset. -/
import Derived.Test.YtagebpmciimcgabDoorSunU
import Derived.Test.YtagebpmciimcgabDoorSunV
namespace Go.Proofs.YtagebpmciimcgabDoor
open Go.ChangeShapes Go.WideShapes Go.ChangeAt Go.RowKit Pm

theorem sunset_law (lat D : Int) (w : World) (hL : laidMetH Tryd.prog Rows.fnExactSunsetRow.laid w) :
    Calls Tryd.prog 6 #[.int .i64 lat, .int .i64 D] w fun e w' => e = .returned (.bool true) ∧ Below w.heap.size w w' := by
  have HT := Lib.hid (sines_of hL)
  clear hL
  cases h : askB lat D
  · have HS := Lib.hid (fun w => ssunset_no lat D w h)
    have HI := Lib.hid (fun w hS => set_no lat D w hS h)
    clear h
    go_enter Tryd.func6, Tryd.ntmps6
    go_wp2_with (first
      | (go_at_call 31; refine (HS.out _).mono ?_; rintro e w1 ⟨rfl, hb⟩)
      | (go_at_call 23; refine (HI.out _ (HT.out.below hb)).mono ?_; rintro e w2 ⟨rfl, hb2⟩))
    go_ret
    exact ⟨rfl, by first | exact Below.next hb hb2 | go_grown⟩
  · obtain ⟨n, hn⟩ := doy_ex (ask_out h).2.1
    obtain ⟨r, hr⟩ := rise_ex (lat := lat) (n := n)
    have HS := fun w => ssunset_in lat D n r w h hn hr
    have HI := fun w hS => set_in lat D n r w hS h hn hr
    obtain ⟨a, ea⟩ : ∃ a, a = (dayL r).2.1 := ⟨_, rfl⟩
    obtain ⟨b, eb⟩ : ∃ b : Int, b = (dayL r).2.2 := ⟨_, rfl⟩
    rw [← ea, ← eb] at HS HI
    clear ea eb h hn hr
    have HS := Lib.hid HS
    have HI := Lib.hid HI
    go_enter Tryd.func6, Tryd.ntmps6
    go_wp2_with (first
      | (go_at_call 31; refine (HS.out _).mono ?_; rintro e w1 ⟨rfl, hb⟩)
      | (go_at_call 23; refine (HI.out _ (HT.out.below hb)).mono ?_; rintro e w2 ⟨rfl, hb2⟩))
    go_ret
    exact ⟨rfl, by first | exact Below.next hb hb2 | go_grown⟩
end Go.Proofs.YtagebpmciimcgabDoor
