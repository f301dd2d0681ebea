/- The program's kind of light, sunrise and sunset, told by what there is. -/
import Derived.Test.YtagebpmciimcgabDoorSunG
namespace Go.Proofs.YtagebpmciimcgabDoor
open Go.ChangeShapes Go.WideShapes Go.ChangeAt Go.RowKit Pm

theorem sunsine_noA (lat D mn : Int) (w : World) (hS : SinesAt w) (h : askB lat D = false) :
    Calls Tryd.prog 54 #[.int .i64 lat, .int .i64 D, .int .i64 mn] w (Ret2 0 2 w) := by
  cases hd : inB 0 99999 [D]
  · exact sunsine_no1 lat D mn w hd
  · have hb : 0 ≤ D ∧ D ≤ 99999 := by simpa [inB] using hd
    have hl : inB (-66) 66 [lat] = false := by
      unfold askB at h
      rwa [hd, Bool.and_true] at h
    obtain ⟨n, hn⟩ := doy_ex hb.1
    exact sunsine_no2 lat D n mn w hS hn hb.2 hl
theorem sunsine_noB (lat D n mn : Int) (w : World) (hS : SinesAt w) (hn : DoyIs D n) (h : askB lat D = true) (hm : inB 0 1439 [mn] = false) :
    Calls Tryd.prog 54 #[.int .i64 lat, .int .i64 D, .int .i64 mn] w (Ret2 0 2 w) := by
  obtain ⟨hl, _, hD⟩ := ask_out h
  exact sunsine_no3 lat D n mn w hS hn hD hl hm
theorem sunsine_in (lat D n mn : Int) (w : World) (hS : SinesAt w) (hn : DoyIs D n) (h : askB lat D = true) (hm : inB 0 1439 [mn] = true) :
    Calls Tryd.prog 54 #[.int .i64 lat, .int .i64 D, .int .i64 mn] w (Ret2 (sunOf lat n (fromNoon mn)) 0 w) := by
  obtain ⟨hl, _, hD⟩ := ask_out h
  exact sunsine_yes lat D n mn w hS hn hD hl hm

theorem kind_err (lat D mn : Int) (w : World) (hS : SinesAt w) (h : ∀ w, SinesAt w → Calls Tryd.prog 54 #[.int .i64 lat, .int .i64 D, .int .i64 mn] w (Ret2 0 2 w)) :
    Calls Tryd.prog 25 #[.int .i64 lat, .int .i64 D, .int .i64 mn] w (Ret2 0 2 w) := by
  have HD := Lib.hid (h w hS)
  clear h hS
  go_enter Tryd.func25, Tryd.ntmps25
  go_wp2_with (first
    | (go_at_call 54; refine HD.out.mono ?_; rintro e w1 ⟨rfl, hb⟩))
  go_ret2
  exact ⟨rfl, hb⟩
theorem kind_ok (lat D mn v : Int) (w : World) (hS : SinesAt w) (v0 : -2000000 ≤ v) (v1 : v ≤ 2000000) (h : ∀ w, SinesAt w → Calls Tryd.prog 54 #[.int .i64 lat, .int .i64 D, .int .i64 mn] w (Ret2 v 0 w)) :
    Calls Tryd.prog 25 #[.int .i64 lat, .int .i64 D, .int .i64 mn] w (Ret2 (kindOf v) 0 w) := by
  have HD := Lib.hid (h w hS)
  clear h hS
  by_cases k1 : -14000 ≤ v
  · have HV := Lib.hid (show kindOf v = 1 by unfold kindOf; rw [if_pos k1])
    go_enter Tryd.func25, Tryd.ntmps25
    go_wp2_with (first
      | (go_at_call 54; refine HD.out.mono ?_; rintro e w1 ⟨rfl, hb⟩))
    go_ret2
    exact ⟨retII HV.out.symm rfl, hb⟩
  · by_cases k2 : -104528 ≤ v
    · have HV := Lib.hid (show kindOf v = 2 by unfold kindOf; rw [if_neg k1, if_pos k2])
      go_enter Tryd.func25, Tryd.ntmps25
      go_wp2_with (first
        | (go_at_call 54; refine HD.out.mono ?_; rintro e w1 ⟨rfl, hb⟩))
      go_ret2
      exact ⟨retII HV.out.symm rfl, hb⟩
    · have HV := Lib.hid (show kindOf v = 3 by unfold kindOf; rw [if_neg k1, if_neg k2])
      go_enter Tryd.func25, Tryd.ntmps25
      go_wp2_with (first
        | (go_at_call 54; refine HD.out.mono ?_; rintro e w1 ⟨rfl, hb⟩))
      go_ret2
      exact ⟨retII HV.out.symm rfl, hb⟩
theorem sun_lim (lat n mn : Int) : -2000000 ≤ sunOf lat n (fromNoon mn) ∧ sunOf lat n (fromNoon mn) ≤ 2000000 := by
  have a := still_bd lat n
  have b := moves_bd lat n
  exact path_bd _ _ mn a.1 a.2 b.1 b.2
theorem kind_in (lat D n mn : Int) (w : World) (hS : SinesAt w) (hn : DoyIs D n) (h : askB lat D = true) (hm : inB 0 1439 [mn] = true) :
    Calls Tryd.prog 25 #[.int .i64 lat, .int .i64 D, .int .i64 mn] w (Ret2 (kindOf (sunOf lat n (fromNoon mn))) 0 w) :=
  kind_ok lat D mn _ w hS (sun_lim lat n mn).1 (sun_lim lat n mn).2 (fun w hS => sunsine_in lat D n mn w hS hn h hm)
theorem rise_in (lat D n r : Int) (w : World) (hS : SinesAt w) (h : askB lat D = true) (hn : DoyIs D n) (hr : RiseIs lat n r) :
    Calls Tryd.prog 22 #[.int .i64 lat, .int .i64 D] w (Ret2 (dayL r).1 (dayL r).2.2 w) :=
  sunrise_err lat D w _ _ _ (fun w hS => daylight_in lat D n r w hS h hn hr) hS
theorem rise_no (lat D : Int) (w : World) (hS : SinesAt w) (h : askB lat D = false) :
    Calls Tryd.prog 22 #[.int .i64 lat, .int .i64 D] w (Ret2 0 2 w) :=
  sunrise_err lat D w _ _ _ (fun w hS => daylight_no lat D w hS h) hS
theorem set_in (lat D n r : Int) (w : World) (hS : SinesAt w) (h : askB lat D = true) (hn : DoyIs D n) (hr : RiseIs lat n r) :
    Calls Tryd.prog 23 #[.int .i64 lat, .int .i64 D] w (Ret2 (dayL r).2.1 (dayL r).2.2 w) :=
  sunset_err lat D w _ _ _ (fun w hS => daylight_in lat D n r w hS h hn hr) hS
theorem set_no (lat D : Int) (w : World) (hS : SinesAt w) (h : askB lat D = false) :
    Calls Tryd.prog 23 #[.int .i64 lat, .int .i64 D] w (Ret2 0 2 w) :=
  sunset_err lat D w _ _ _ (fun w hS => daylight_no lat D w hS h) hS
end Go.Proofs.YtagebpmciimcgabDoor
