/- The model's answers on the sun. -/
import Derived.Test.YtagebpmciimcgabDoorSunT
namespace Go.Proofs.YtagebpmciimcgabDoor
open Go.ChangeShapes Go.WideShapes Go.ChangeAt Go.RowKit Pm

/-- Two numbers are returned; of what was there nothing has changed. -/
def RetS2 (a b : Int) (w : World) (e : Ending) (w' : World) : Prop := e = .returned (.tuple #[.int .i64 a, .int .i64 b]) ∧ Below w.heap.size w w'
theorem askB_out {lat D : Int} (h : askB lat D = true) : (-66 ≤ lat ∧ lat ≤ 66) ∧ 0 ≤ D ∧ D ≤ 99999 := by
  obtain ⟨a, b⟩ := ask_out h
  exact ⟨by simpa [inB] using a, b⟩



/-! ### SunSine, LightKind -/


/-! ### Sunrise, sunset, dark minutes -/
theorem ssunrise_no (lat D : Int) (w : World) (h : askB lat D = false) :
    Calls Tryd.prog 30 #[.int .i64 lat, .int .i64 D] w (RetS2 0 2 w) := by
  have HI := Lib.hid (fun w => h ▸ sask_any lat D w)
  clear h
  go_enter Tryd.func30, Tryd.ntmps30
  go_wp2_with (first
    | (go_at_call 61; refine (HI.out _).mono ?_; rintro e w1 ⟨rfl, rfl⟩))
  go_ret2
  exact ⟨rfl, Below.refl _ _⟩
theorem ssunrise_in (lat D n r : Int) (w : World) (h : askB lat D = true) (hn : DoyIs D n) (hr : RiseIs lat n r) :
    Calls Tryd.prog 30 #[.int .i64 lat, .int .i64 D] w (RetS2 (dayL r).1 (dayL r).2.2 w) := by
  have HI := Lib.hid (fun w => h ▸ sask_any lat D w)
  obtain ⟨hl, _, hD⟩ := askB_out h
  have HR := Lib.hid (fun w => srise_any lat D n r w hn hD hl.1 hl.2 hr)
  have hle := hr.le
  by_cases c : r < 0
  · rw [show dayL r = (0, 0, 3) by unfold dayL; rw [if_pos c]]
    clear h hn hr
    go_enter Tryd.func30, Tryd.ntmps30
    go_wp2_with (first
      | (go_at_call 61; refine (HI.out _).mono ?_; rintro e w1 ⟨rfl, rfl⟩)
      | (go_at_call 62; refine (HR.out _).mono ?_; rintro e w1 ⟨rfl, hb⟩))
    go_ret2
    exact ⟨rfl, hb⟩
  · rw [show dayL r = (r, setOf r, 0) by unfold dayL; rw [if_neg c]]
    clear h hn hr
    go_enter Tryd.func30, Tryd.ntmps30
    go_wp2_with (first
      | (go_at_call 61; refine (HI.out _).mono ?_; rintro e w1 ⟨rfl, rfl⟩)
      | (go_at_call 62; refine (HR.out _).mono ?_; rintro e w1 ⟨rfl, hb⟩))
    go_ret2
    exact ⟨rfl, hb⟩
theorem ssunset_no (lat D : Int) (w : World) (h : askB lat D = false) :
    Calls Tryd.prog 31 #[.int .i64 lat, .int .i64 D] w (RetS2 0 2 w) := by
  have HI := Lib.hid (fun w => h ▸ sask_any lat D w)
  clear h
  go_enter Tryd.func31, Tryd.ntmps31
  go_wp2_with (first
    | (go_at_call 61; refine (HI.out _).mono ?_; rintro e w1 ⟨rfl, rfl⟩))
  go_ret2
  exact ⟨rfl, Below.refl _ _⟩
theorem ssunset_in (lat D n r : Int) (w : World) (h : askB lat D = true) (hn : DoyIs D n) (hr : RiseIs lat n r) :
    Calls Tryd.prog 31 #[.int .i64 lat, .int .i64 D] w (RetS2 (dayL r).2.1 (dayL r).2.2 w) := by
  have HI := Lib.hid (fun w => h ▸ sask_any lat D w)
  obtain ⟨hl, _, hD⟩ := askB_out h
  have HR := Lib.hid (fun w => srise_any lat D n r w hn hD hl.1 hl.2 hr)
  have hle := hr.le
  by_cases c : r < 0
  · rw [show dayL r = (0, 0, 3) by unfold dayL; rw [if_pos c]]
    clear h hn hr
    go_enter Tryd.func31, Tryd.ntmps31
    go_wp2_with (first
      | (go_at_call 61; refine (HI.out _).mono ?_; rintro e w1 ⟨rfl, rfl⟩)
      | (go_at_call 62; refine (HR.out _).mono ?_; rintro e w1 ⟨rfl, hb⟩))
    go_ret2
    exact ⟨rfl, hb⟩
  · rw [show dayL r = (r, setOf r, 0) by unfold dayL; rw [if_neg c]]
    have HS := fun w => sset_any lat D n r w hn hD hl.1 hl.2 hr (by omega)
    obtain ⟨s, es⟩ : ∃ s, s = setOf r := ⟨_, rfl⟩
    rw [← es] at HS ⊢
    have HS := Lib.hid HS
    clear h hn hr es
    go_enter Tryd.func31, Tryd.ntmps31
    go_wp2_with (first
      | (go_at_call 61; refine (HI.out _).mono ?_; rintro e w1 ⟨rfl, rfl⟩)
      | (go_at_call 62; refine (HR.out _).mono ?_; rintro e w1 ⟨rfl, hb⟩; have ac := Lib.hid hb; clear hb)
      | (go_at_call 63; refine (HS.out _).mono ?_; rintro e w2 ⟨rfl, hb⟩; have ac2 := Lib.hid (Below.next ac.out hb); clear hb))
    go_ret2
    exact ⟨rfl, ac2.out⟩
theorem sdarkm_no (lat D : Int) (w : World) (h : askB lat D = false) :
    Calls Tryd.prog 32 #[.int .i64 lat, .int .i64 D] w (RetS2 0 2 w) := by
  have HI := Lib.hid (fun w => h ▸ sask_any lat D w)
  clear h
  go_enter Tryd.func32, Tryd.ntmps32
  go_wp2_with (first
    | (go_at_call 61; refine (HI.out _).mono ?_; rintro e w1 ⟨rfl, rfl⟩))
  go_ret2
  exact ⟨rfl, Below.refl _ _⟩
theorem sdarkm_in (lat D n r : Int) (w : World) (h : askB lat D = true) (hn : DoyIs D n) (hr : RiseIs lat n r) :
    Calls Tryd.prog 32 #[.int .i64 lat, .int .i64 D] w (RetS2 (darkOf r) 0 w) := by
  have HI := Lib.hid (fun w => h ▸ sask_any lat D w)
  obtain ⟨hl, _, hD⟩ := askB_out h
  have HR := fun w => sdark_any lat D n r w hn hD hl.1 hl.2 hr
  obtain ⟨s, es⟩ : ∃ s, s = darkOf r := ⟨_, rfl⟩
  rw [← es] at HR ⊢
  have HR := Lib.hid HR
  clear h hn hr es
  go_enter Tryd.func32, Tryd.ntmps32
  go_wp2_with (first
    | (go_at_call 61; refine (HI.out _).mono ?_; rintro e w1 ⟨rfl, rfl⟩)
    | (go_at_call 64; refine (HR.out _).mono ?_; rintro e w1 ⟨rfl, hb⟩))
  go_ret2
  exact ⟨rfl, hb⟩
end Go.Proofs.YtagebpmciimcgabDoor
