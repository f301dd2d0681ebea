/- The model's answers on the sun. -/
import Derived.Test.YtjjkbbcpihaphabDoorSunT
namespace Go.Proofs.YtjjkbbcpihaphabDoor
open Go.ChangeShapes Go.WideShapes Go.ChangeAt Go.RowKit Pm

/-- Two numbers are returned; of what was there nothing has changed. -/
def RetS2 (a b : Int) (w : World) (e : Ending) (w' : World) : Prop := e = .returned (.tuple #[.int .i64 a, .int .i64 b]) ∧ Below w.heap.size w w'
theorem askB_out {lat D : Int} (h : askB lat D = true) : (-66 ≤ lat ∧ lat ≤ 66) ∧ 0 ≤ D ∧ D ≤ 99999 := by
  obtain ⟨a, b⟩ := ask_out h
  exact ⟨by simpa [inB] using a, b⟩

theorem ssinetenths_any (t : Int) (w : World) :
    Calls Tryd.prog 24 #[.int .i64 t] w (Ret1 (sineTV t) w) := by
  cases h : inB (-36000) 36000 [t]
  · have HV := Lib.hid (show sineTV t = 0 by unfold sineTV; rw [h]; rfl)
    have HI := Lib.hid (fun w => h ▸ in_any t (-36000) 36000 w)
    clear h
    go_enter Tryd.func24, Tryd.ntmps24
    go_wp2_with (first
      | (go_at_call 47; refine (HI.out _).mono ?_; rintro e w1 ⟨rfl, rfl⟩))
    go_ret
    exact ⟨ret_i HV.out.symm, Below.refl _ _⟩
  · have hb : -36000 ≤ t ∧ t ≤ 36000 := by simpa [inB] using h
    have HV := (show sineTV t = sineT t by unfold sineTV; rw [h]; rfl)
    have HT := fun w => stenths_any t w (by omega) (by omega)
    rw [← HV] at HT
    obtain ⟨z, ez⟩ : ∃ z, z = sineTV t := ⟨_, rfl⟩
    rw [← ez] at HT ⊢
    have HT := Lib.hid HT
    have HI := Lib.hid (fun w => h ▸ in_any t (-36000) 36000 w)
    clear h HV ez
    go_enter Tryd.func24, Tryd.ntmps24
    go_wp2_with (first
      | (go_at_call 47; refine (HI.out _).mono ?_; rintro e w1 ⟨rfl, rfl⟩)
      | (go_at_call 48; refine (HT.out _).mono ?_; rintro e w1 ⟨rfl, hb1⟩))
    go_ret
    exact ⟨rfl, hb1⟩

theorem sdeclof_no (D : Int) (w : World) (h : inB 0 99999 [D] = false) :
    Calls Tryd.prog 26 #[.int .i64 D] w (RetS2 0 2 w) := by
  have HI := Lib.hid (fun w => h ▸ sday4_any D w)
  clear h
  go_enter Tryd.func26, Tryd.ntmps26
  go_wp2_with (first
    | (go_at_call 52; refine (HI.out _).mono ?_; rintro e w1 ⟨rfl, rfl⟩))
  go_ret2
  exact ⟨rfl, Below.refl _ _⟩
theorem sdeclof_yes (D n : Int) (w : World) (hd : DoyIs D n) (hD : D ≤ 99999) :
    Calls Tryd.prog 26 #[.int .i64 D] w (RetS2 (declOf n) 0 w) := by
  have h : inB 0 99999 [D] = true := by have := hd.nn; simp [inB]; omega
  have HI := Lib.hid (fun w => h ▸ sday4_any D w)
  have HT := fun w => sdecl_any D n w hd hD
  obtain ⟨z, ez⟩ : ∃ z, z = declOf n := ⟨_, rfl⟩
  rw [← ez] at HT ⊢
  have HT := Lib.hid HT
  clear h hd ez
  go_enter Tryd.func26, Tryd.ntmps26
  go_wp2_with (first
    | (go_at_call 52; refine (HI.out _).mono ?_; rintro e w1 ⟨rfl, rfl⟩)
    | (go_at_call 53; refine (HT.out _).mono ?_; rintro e w1 ⟨rfl, hb⟩))
  go_ret2
  exact ⟨rfl, hb⟩

/-! ### SunSine, LightKind -/
theorem ssunsine_no1 (lat D mn : Int) (w : World) (h : askB lat D = false) :
    Calls Tryd.prog 28 #[.int .i64 lat, .int .i64 D, .int .i64 mn] w (RetS2 0 2 w) := by
  have HI := Lib.hid (fun w => h ▸ sask_any lat D w)
  clear h
  go_enter Tryd.func28, Tryd.ntmps28
  go_wp2_with (first
    | (go_at_call 57; refine (HI.out _).mono ?_; rintro e w1 ⟨rfl, rfl⟩))
  go_ret2
  exact ⟨rfl, Below.refl _ _⟩
theorem ssunsine_no2 (lat D mn : Int) (w : World) (h : askB lat D = true) (hm : inB 0 1439 [mn] = false) :
    Calls Tryd.prog 28 #[.int .i64 lat, .int .i64 D, .int .i64 mn] w (RetS2 0 2 w) := by
  have HI := Lib.hid (fun w => h ▸ sask_any lat D w)
  have HM := Lib.hid (fun w => hm ▸ in_any mn 0 1439 w)
  clear h hm
  go_enter Tryd.func28, Tryd.ntmps28
  go_wp2_with (first
    | (go_at_call 57; refine (HI.out _).mono ?_; rintro e w1 ⟨rfl, rfl⟩)
    | (go_at_call 47; refine (HM.out _).mono ?_; rintro e w1 ⟨rfl, rfl⟩))
  go_ret2
  exact ⟨rfl, Below.refl _ _⟩
theorem ssunsine_yes (lat D n mn : Int) (w : World) (hd : DoyIs D n) (h : askB lat D = true) (hm : inB 0 1439 [mn] = true) :
    Calls Tryd.prog 28 #[.int .i64 lat, .int .i64 D, .int .i64 mn] w (RetS2 (sunOf lat n (fromNoon mn)) 0 w) := by
  have HI := Lib.hid (fun w => h ▸ sask_any lat D w)
  have HM := Lib.hid (fun w => hm ▸ in_any mn 0 1439 w)
  obtain ⟨_, _, hD⟩ := askB_out h
  have hmb : 0 ≤ mn ∧ mn ≤ 1439 := by simpa [inB] using hm
  have HO := fun w => sof_any lat D n w hd hD
  have hab := still_bd lat n
  have hbb := moves_bd lat n
  have HA := fun b w q0 q1 => sat_any (stillOf lat n) (movesOf lat n) mn b w q0 q1 hab.1 hab.2 hbb.1 hbb.2 hmb.1 (by omega)
  rw [← path_sun]
  obtain ⟨a, ea⟩ : ∃ a, a = stillOf lat n := ⟨_, rfl⟩
  obtain ⟨b, eb⟩ : ∃ b, b = movesOf lat n := ⟨_, rfl⟩
  rw [← ea, ← eb] at HO HA ⊢
  obtain ⟨v, ev⟩ : ∃ v, v = pathAt a b mn := ⟨_, rfl⟩
  rw [← ev] at HA ⊢
  have HO := Lib.hid HO
  have HA := Lib.hid HA
  clear h hm hd ea eb ev hab hbb hmb
  go_enter Tryd.func28, Tryd.ntmps28
  go_wp2_with (first
    | (go_at_call 57; refine (HI.out _).mono ?_; rintro e w1 ⟨rfl, rfl⟩)
    | (go_at_call 47; refine (HM.out _).mono ?_; rintro e w1 ⟨rfl, rfl⟩)
    | (go_at_call 58; refine (HO.out _).mono ?_; rintro e w1 ⟨rfl, hb⟩; have hsz := hb.size; have ac := hb.alloc hb.size (.cells #[.int .i64 a, .int .i64 b] 54))
    | (go_at_call 59; refine (HA.out w1.heap.size _ (by go_cell) (by go_cell)).mono ?_; rintro e w2 ⟨rfl, hb2⟩; have ac2 := Lib.hid (Below.next ac hb2); clear hb2))
  go_ret2
  exact ⟨rfl, ac2.out⟩

theorem slightkind_no1 (lat D mn : Int) (w : World) (h : askB lat D = false) :
    Calls Tryd.prog 30 #[.int .i64 lat, .int .i64 D, .int .i64 mn] w (RetS2 0 2 w) := by
  have HI := Lib.hid (fun w => h ▸ sask_any lat D w)
  clear h
  go_enter Tryd.func30, Tryd.ntmps30
  go_wp2_with (first
    | (go_at_call 57; refine (HI.out _).mono ?_; rintro e w1 ⟨rfl, rfl⟩))
  go_ret2
  exact ⟨rfl, Below.refl _ _⟩
theorem slightkind_no2 (lat D mn : Int) (w : World) (h : askB lat D = true) (hm : inB 0 1439 [mn] = false) :
    Calls Tryd.prog 30 #[.int .i64 lat, .int .i64 D, .int .i64 mn] w (RetS2 0 2 w) := by
  have HI := Lib.hid (fun w => h ▸ sask_any lat D w)
  have HM := Lib.hid (fun w => hm ▸ in_any mn 0 1439 w)
  clear h hm
  go_enter Tryd.func30, Tryd.ntmps30
  go_wp2_with (first
    | (go_at_call 57; refine (HI.out _).mono ?_; rintro e w1 ⟨rfl, rfl⟩)
    | (go_at_call 47; refine (HM.out _).mono ?_; rintro e w1 ⟨rfl, rfl⟩))
  go_ret2
  exact ⟨rfl, Below.refl _ _⟩
theorem slightkind_yes (lat D n mn : Int) (w : World) (hd : DoyIs D n) (h : askB lat D = true) (hm : inB 0 1439 [mn] = true) :
    Calls Tryd.prog 30 #[.int .i64 lat, .int .i64 D, .int .i64 mn] w (RetS2 (kindOf (sunOf lat n (fromNoon mn))) 0 w) := by
  have HI := Lib.hid (fun w => h ▸ sask_any lat D w)
  have HM := Lib.hid (fun w => hm ▸ in_any mn 0 1439 w)
  obtain ⟨_, _, hD⟩ := askB_out h
  have hmb : 0 ≤ mn ∧ mn ≤ 1439 := by simpa [inB] using hm
  have HO := fun w => sof_any lat D n w hd hD
  have hab := still_bd lat n
  have hbb := moves_bd lat n
  have HA := fun b w q0 q1 => sat_any (stillOf lat n) (movesOf lat n) mn b w q0 q1 hab.1 hab.2 hbb.1 hbb.2 hmb.1 (by omega)
  have hpb := path_bd (stillOf lat n) (movesOf lat n) mn hab.1 hab.2 hbb.1 hbb.2
  rw [← path_sun]
  obtain ⟨a, ea⟩ : ∃ a, a = stillOf lat n := ⟨_, rfl⟩
  obtain ⟨b, eb⟩ : ∃ b, b = movesOf lat n := ⟨_, rfl⟩
  rw [← ea, ← eb] at HO HA hpb ⊢
  obtain ⟨v, ev⟩ : ∃ v, v = pathAt a b mn := ⟨_, rfl⟩
  rw [← ev] at HA hpb ⊢
  obtain ⟨v0, v1⟩ := hpb
  have HO := Lib.hid HO
  have HA := Lib.hid HA
  clear h hm hd ea eb ev hab hbb hmb
  by_cases k1 : -14000 ≤ v
  · have HV := Lib.hid (show kindOf v = 1 by unfold kindOf; rw [if_pos k1])
    go_enter Tryd.func30, Tryd.ntmps30
    go_wp2_with (first
      | (go_at_call 57; refine (HI.out _).mono ?_; rintro e w1 ⟨rfl, rfl⟩)
      | (go_at_call 47; refine (HM.out _).mono ?_; rintro e w1 ⟨rfl, rfl⟩)
      | (go_at_call 58; refine (HO.out _).mono ?_; rintro e w1 ⟨rfl, hb⟩; have hsz := hb.size; have ac := hb.alloc hb.size (.cells #[.int .i64 a, .int .i64 b] 54))
      | (go_at_call 59; refine (HA.out w1.heap.size _ (by go_cell) (by go_cell)).mono ?_; rintro e w2 ⟨rfl, hb2⟩; have ac2 := Lib.hid (Below.next ac hb2); clear hb2))
    go_ret2
    exact ⟨retII HV.out.symm rfl, ac2.out⟩
  · by_cases k2 : -104528 ≤ v
    · have HV := Lib.hid (show kindOf v = 2 by unfold kindOf; rw [if_neg k1, if_pos k2])
      go_enter Tryd.func30, Tryd.ntmps30
      go_wp2_with (first
        | (go_at_call 57; refine (HI.out _).mono ?_; rintro e w1 ⟨rfl, rfl⟩)
        | (go_at_call 47; refine (HM.out _).mono ?_; rintro e w1 ⟨rfl, rfl⟩)
        | (go_at_call 58; refine (HO.out _).mono ?_; rintro e w1 ⟨rfl, hb⟩; have hsz := hb.size; have ac := hb.alloc hb.size (.cells #[.int .i64 a, .int .i64 b] 54))
        | (go_at_call 59; refine (HA.out w1.heap.size _ (by go_cell) (by go_cell)).mono ?_; rintro e w2 ⟨rfl, hb2⟩; have ac2 := Lib.hid (Below.next ac hb2); clear hb2))
      go_ret2
      exact ⟨retII HV.out.symm rfl, ac2.out⟩
    · have HV := Lib.hid (show kindOf v = 3 by unfold kindOf; rw [if_neg k1, if_neg k2])
      go_enter Tryd.func30, Tryd.ntmps30
      go_wp2_with (first
        | (go_at_call 57; refine (HI.out _).mono ?_; rintro e w1 ⟨rfl, rfl⟩)
        | (go_at_call 47; refine (HM.out _).mono ?_; rintro e w1 ⟨rfl, rfl⟩)
        | (go_at_call 58; refine (HO.out _).mono ?_; rintro e w1 ⟨rfl, hb⟩; have hsz := hb.size; have ac := hb.alloc hb.size (.cells #[.int .i64 a, .int .i64 b] 54))
        | (go_at_call 59; refine (HA.out w1.heap.size _ (by go_cell) (by go_cell)).mono ?_; rintro e w2 ⟨rfl, hb2⟩; have ac2 := Lib.hid (Below.next ac hb2); clear hb2))
      go_ret2
      exact ⟨retII HV.out.symm rfl, ac2.out⟩

/-! ### Sunrise, sunset, dark minutes -/
theorem ssunrise_no (lat D : Int) (w : World) (h : askB lat D = false) :
    Calls Tryd.prog 31 #[.int .i64 lat, .int .i64 D] w (RetS2 0 2 w) := by
  have HI := Lib.hid (fun w => h ▸ sask_any lat D w)
  clear h
  go_enter Tryd.func31, Tryd.ntmps31
  go_wp2_with (first
    | (go_at_call 57; refine (HI.out _).mono ?_; rintro e w1 ⟨rfl, rfl⟩))
  go_ret2
  exact ⟨rfl, Below.refl _ _⟩
theorem ssunrise_in (lat D n r : Int) (w : World) (h : askB lat D = true) (hn : DoyIs D n) (hr : RiseIs lat n r) :
    Calls Tryd.prog 31 #[.int .i64 lat, .int .i64 D] w (RetS2 (dayL r).1 (dayL r).2.2 w) := by
  have HI := Lib.hid (fun w => h ▸ sask_any lat D w)
  obtain ⟨hl, _, hD⟩ := askB_out h
  have HR := Lib.hid (fun w => srise_any lat D n r w hn hD hl.1 hl.2 hr)
  have hle := hr.le
  by_cases c : r < 0
  · rw [show dayL r = (0, 0, 3) by unfold dayL; rw [if_pos c]]
    clear h hn hr
    go_enter Tryd.func31, Tryd.ntmps31
    go_wp2_with (first
      | (go_at_call 57; refine (HI.out _).mono ?_; rintro e w1 ⟨rfl, rfl⟩)
      | (go_at_call 62; refine (HR.out _).mono ?_; rintro e w1 ⟨rfl, hb⟩))
    go_ret2
    exact ⟨rfl, hb⟩
  · rw [show dayL r = (r, setOf r, 0) by unfold dayL; rw [if_neg c]]
    clear h hn hr
    go_enter Tryd.func31, Tryd.ntmps31
    go_wp2_with (first
      | (go_at_call 57; refine (HI.out _).mono ?_; rintro e w1 ⟨rfl, rfl⟩)
      | (go_at_call 62; refine (HR.out _).mono ?_; rintro e w1 ⟨rfl, hb⟩))
    go_ret2
    exact ⟨rfl, hb⟩
theorem ssunset_no (lat D : Int) (w : World) (h : askB lat D = false) :
    Calls Tryd.prog 32 #[.int .i64 lat, .int .i64 D] w (RetS2 0 2 w) := by
  have HI := Lib.hid (fun w => h ▸ sask_any lat D w)
  clear h
  go_enter Tryd.func32, Tryd.ntmps32
  go_wp2_with (first
    | (go_at_call 57; refine (HI.out _).mono ?_; rintro e w1 ⟨rfl, rfl⟩))
  go_ret2
  exact ⟨rfl, Below.refl _ _⟩
theorem ssunset_in (lat D n r : Int) (w : World) (h : askB lat D = true) (hn : DoyIs D n) (hr : RiseIs lat n r) :
    Calls Tryd.prog 32 #[.int .i64 lat, .int .i64 D] w (RetS2 (dayL r).2.1 (dayL r).2.2 w) := by
  have HI := Lib.hid (fun w => h ▸ sask_any lat D w)
  obtain ⟨hl, _, hD⟩ := askB_out h
  have HR := Lib.hid (fun w => srise_any lat D n r w hn hD hl.1 hl.2 hr)
  have hle := hr.le
  by_cases c : r < 0
  · rw [show dayL r = (0, 0, 3) by unfold dayL; rw [if_pos c]]
    clear h hn hr
    go_enter Tryd.func32, Tryd.ntmps32
    go_wp2_with (first
      | (go_at_call 57; refine (HI.out _).mono ?_; rintro e w1 ⟨rfl, rfl⟩)
      | (go_at_call 62; refine (HR.out _).mono ?_; rintro e w1 ⟨rfl, hb⟩))
    go_ret2
    exact ⟨rfl, hb⟩
  · rw [show dayL r = (r, setOf r, 0) by unfold dayL; rw [if_neg c]]
    have HS := fun w => sset_any lat D n r w hn hD hl.1 hl.2 hr (by omega)
    obtain ⟨s, es⟩ : ∃ s, s = setOf r := ⟨_, rfl⟩
    rw [← es] at HS ⊢
    have HS := Lib.hid HS
    clear h hn hr es
    go_enter Tryd.func32, Tryd.ntmps32
    go_wp2_with (first
      | (go_at_call 57; refine (HI.out _).mono ?_; rintro e w1 ⟨rfl, rfl⟩)
      | (go_at_call 62; refine (HR.out _).mono ?_; rintro e w1 ⟨rfl, hb⟩; have ac := Lib.hid hb; clear hb)
      | (go_at_call 63; refine (HS.out _).mono ?_; rintro e w2 ⟨rfl, hb⟩; have ac2 := Lib.hid (Below.next ac.out hb); clear hb))
    go_ret2
    exact ⟨rfl, ac2.out⟩
theorem sdarkm_no (lat D : Int) (w : World) (h : askB lat D = false) :
    Calls Tryd.prog 33 #[.int .i64 lat, .int .i64 D] w (RetS2 0 2 w) := by
  have HI := Lib.hid (fun w => h ▸ sask_any lat D w)
  clear h
  go_enter Tryd.func33, Tryd.ntmps33
  go_wp2_with (first
    | (go_at_call 57; refine (HI.out _).mono ?_; rintro e w1 ⟨rfl, rfl⟩))
  go_ret2
  exact ⟨rfl, Below.refl _ _⟩
theorem sdarkm_in (lat D n r : Int) (w : World) (h : askB lat D = true) (hn : DoyIs D n) (hr : RiseIs lat n r) :
    Calls Tryd.prog 33 #[.int .i64 lat, .int .i64 D] w (RetS2 (darkOf r) 0 w) := by
  have HI := Lib.hid (fun w => h ▸ sask_any lat D w)
  obtain ⟨hl, _, hD⟩ := askB_out h
  have HR := fun w => sdark_any lat D n r w hn hD hl.1 hl.2 hr
  obtain ⟨s, es⟩ : ∃ s, s = darkOf r := ⟨_, rfl⟩
  rw [← es] at HR ⊢
  have HR := Lib.hid HR
  clear h hn hr es
  go_enter Tryd.func33, Tryd.ntmps33
  go_wp2_with (first
    | (go_at_call 57; refine (HI.out _).mono ?_; rintro e w1 ⟨rfl, rfl⟩)
    | (go_at_call 64; refine (HR.out _).mono ?_; rintro e w1 ⟨rfl, hb⟩))
  go_ret2
  exact ⟨rfl, hb⟩
end Go.Proofs.YtjjkbbcpihaphabDoor
