/- The model's height of the sun at a minute; its first minute of daylight. -/
import Derived.Test.YtagebpmciimcgabDoorSunS
namespace Go.Proofs.YtagebpmciimcgabDoor
open Go.ChangeShapes Go.WideShapes Go.ChangeAt Go.RowKit Pm

set_option maxHeartbeats 1000000 in
theorem sat_any (mid sw mn : Int) (b : Nat) (w : World) (q0 : w.cell? ⟨b, 0, none⟩ = some (.int .i64 mid)) (q1 : w.cell? ⟨b, 1, none⟩ = some (.int .i64 sw)) (a0 : -1000000 ≤ mid) (a1 : mid ≤ 1000000) (s0 : -1000000 ≤ sw) (s1 : sw ≤ 1000000) (m0 : 0 ≤ mn) (m1 : mn ≤ 1440) :
    Calls Tryd.prog 93 #[.pointer (some ⟨b, 0, none⟩), .int .i64 mn] w fun e w' => e = .returned (.int .i64 (pathAt mid sw mn)) ∧ Below w.heap.size w w' := by
  have hg : maxI (mn - 720) (720 - mn) = fromNoon mn := by unfold maxI fromNoon; split <;> split <;> omega
  have hk := noon_bd mn m0 m1
  have hv : pathAt mid sw mn = mid + dvr (sw * hourOf (fromNoon mn)) 1000000 := rfl
  have HG := Lib.hid (fun w => hg ▸ smaxi_any (mn - 720) (720 - mn) w)
  obtain ⟨k, ek⟩ : ∃ k, k = fromNoon mn := ⟨_, rfl⟩
  rw [← ek] at HG hk hv
  obtain ⟨k0, k1⟩ := hk
  have hq : hourOf k = cosR (k / 4) + dvr ((cosR (k / 4 + 1) - cosR (k / 4)) * (k % 4)) 4 := rfl
  have hh := hourOf_bd k
  have b0 := cos_bd (k / 4)
  have b1 := cos_bd (k / 4 + 1)
  have hm := mulAB (cosR (k / 4 + 1) - cosR (k / 4)) (k % 4) 2000000 10 (by omega) (by omega) (by omega) (by omega)
  have hp := part_bd (cosR (k / 4)) (cosR (k / 4 + 1)) (k % 4) 4 (by omega) (by omega) (by omega) b0.1 b0.2 b1.1 b1.2
  have HQ := Lib.hid (fun w => scosine_any (k / 4) w)
  have HQ1 := Lib.hid (fun w => scosine_any (k / 4 + 1) w)
  obtain ⟨x0, e0⟩ : ∃ s, s = cosR (k / 4) := ⟨_, rfl⟩
  obtain ⟨x1, e1⟩ : ∃ s, s = cosR (k / 4 + 1) := ⟨_, rfl⟩
  rw [← e0] at hq b0 hm hp HQ
  rw [← e1] at hq b1 hm hp HQ1
  obtain ⟨p, ep⟩ : ∃ p, (x1 - x0) * (k % 4) = p := ⟨_, rfl⟩
  rw [ep] at hq hm hp
  have HD1 := Lib.hid (fun w => sdiv_any p 4 w (by omega) (by omega) (by omega) (by omega) (by omega))
  obtain ⟨z, ez⟩ : ∃ z, z = dvr p 4 := ⟨_, rfl⟩
  rw [← ez] at hq hp HD1
  rw [hq] at hh hv
  have hm2 := mulAB sw (x0 + z) 1000000 1000000 s0 s1 hh.1 hh.2
  obtain ⟨h, eh⟩ : ∃ h, x0 + z = h := ⟨_, rfl⟩
  rw [eh] at hm2 hv hh hp
  obtain ⟨t, et⟩ : ∃ t, sw * h = t := ⟨_, rfl⟩
  rw [et] at hv hm2
  have hd := dvr_lim t (by omega) (by omega)
  have HD2 := Lib.hid (fun w => sdiv_any t 1000000 w (by omega) (by omega) (by omega) (by omega) (by omega))
  obtain ⟨v, ev⟩ : ∃ v, v = dvr t 1000000 := ⟨_, rfl⟩
  rw [← ev] at hv hd HD2
  rw [hv]
  obtain ⟨d0, d1⟩ := hd
  obtain ⟨t0, t1⟩ := hm2
  obtain ⟨p0, p1⟩ := hm
  obtain ⟨h0, h1⟩ := hh
  obtain ⟨x00, x01⟩ := b0
  obtain ⟨x10, x11⟩ := b1
  have hb := World.block_lt_of_cell? _ _ q0
  clear hg hv hq ek e0 e1 ez ev hp
  go_enter Tryd.func93, Tryd.ntmps93
  go_wp2_with (first
    | (go_at_call 117; refine (HG.out _).mono ?_; rintro e w1 ⟨rfl, rfl⟩)
    | (go_at_call 116; ((with_reducible refine (HQ.out _).mono ?_); rintro e w1 ⟨rfl, hb⟩; (first | have ac2 := Lib.hid (Below.next ac.out hb) | have ac := Lib.hid hb); have q0 := cell_below q0 hb; have q1 := cell_below q1 hb; clear hb))
    | (go_at_call 116; ((with_reducible refine (HQ1.out _).mono ?_); rintro e w2 ⟨rfl, hb⟩; have ac := Lib.hid (Below.next ac.out hb); have q0 := cell_below q0 hb; have q1 := cell_below q1 hb; clear hb))
    | (go_at_call 113; ((with_reducible refine (HD1.out _).mono ?_); rintro e w3 ⟨rfl, rfl⟩)))
  have ac3 := ac2.out
  have eW : IntKind.i64.wrap t = t := IntWalk.i64_in _ (by omega)
  have eZ : IntKind.i64.wrap (mid + v) = mid + v := IntWalk.i64_in _ (by omega)
  go_region_held3 (fun w' => w'.cell? ⟨b, 0, none⟩ = some (.int .i64 mid) ∧ w'.cell? ⟨b, 1, none⟩ = some (.int .i64 sw) ∧ Below w.heap.size w w')
    (first | assumption | exact keep2 (by assumption) (by assumption) | exact drew2 (by assumption) | exact drew2 ⟨by assumption, by assumption, by assumption⟩ | exact ⟨by assumption, by assumption, by assumption⟩)
    (first | (go_at_call 113; refine (HD2.out _).mono ?_; rintro e w3 ⟨rfl, rfl⟩))
  go_wp2
  go_ret
  exact ⟨rfl, keepB2 (by assumption)⟩

/-- A number is returned. -/
def Ret1 (a : Int) (w : World) (e : Ending) (w' : World) : Prop := e = .returned (.int .i64 a) ∧ Below w.heap.size w w'
theorem from_le {m : Int} (h : m ≤ 720) : fromNoon m = 720 - m := by unfold fromNoon; split <;> omega
theorem rise_at0 {lat n r : Int} (h : RiseIs lat n r) (hr : r < 0) : sunOf lat n 0 < -14000 := by
  rcases h with ⟨_, h⟩ | ⟨h, _⟩
  · exact h
  · omega

theorem srise_none (lat D n : Int) (w : World) (h : DoyIs D n) (hD : D ≤ 99999) (hr : RiseIs lat n (-1)) :
    Calls Tryd.prog 62 #[.int .i64 lat, .int .i64 D] w (Ret1 (-1) w) := by
  have HO := fun w => sof_any lat D n w h hD
  have hab := still_bd lat n
  have hbb := moves_bd lat n
  have hz := rise_at0 hr (by omega)
  have hn : sunOf lat n 0 = pathAt (stillOf lat n) (movesOf lat n) 720 := by rw [path_sun, from_le (by omega)]; rfl
  have HA := fun b w q0 q1 => sat_any (stillOf lat n) (movesOf lat n) 720 b w q0 q1 hab.1 hab.2 hbb.1 hbb.2 (by omega) (by omega)
  rw [← hn] at HA
  obtain ⟨v, ev⟩ : ∃ v, v = sunOf lat n 0 := ⟨_, rfl⟩
  rw [← ev] at HA hz
  obtain ⟨a, ea⟩ : ∃ a, a = stillOf lat n := ⟨_, rfl⟩
  obtain ⟨b, eb⟩ : ∃ b, b = movesOf lat n := ⟨_, rfl⟩
  rw [← ea, ← eb] at HO HA
  have HO := Lib.hid HO
  have HA := Lib.hid HA
  clear h hr hn ea eb ev hab hbb
  go_enter Tryd.func62, Tryd.ntmps62
  go_wp2_with (first
    | (go_at_call 92; refine (HO.out _).mono ?_; rintro e w1 ⟨rfl, hb⟩; have hsz := hb.size; have ac := hb.alloc hb.size (.cells #[.int .i64 a, .int .i64 b] 105))
    | (go_at_call 93; refine (HA.out w1.heap.size _ (by go_cell) (by go_cell)).mono ?_; rintro e w2 ⟨rfl, hb2⟩; have ac2 := Lib.hid (Below.next ac hb2); clear hb2))
  go_ret
  exact ⟨rfl, ac2.out⟩

set_option maxHeartbeats 2000000 in
theorem srise_some (lat D n r : Int) (w : World) (h : DoyIs D n) (hD : D ≤ 99999) (l0 : -66 ≤ lat) (l1 : lat ≤ 66) (hr : RiseIs lat n r) (h0 : 0 ≤ r) :
    Calls Tryd.prog 62 #[.int .i64 lat, .int .i64 D] w (Ret1 r w) := by
  have hnb := h.bd
  have HO := fun w => sof_any lat D n w h hD
  have hab := still_bd lat n
  have hbb := moves_bd lat n
  have HN := fun m (h : m ≤ 720) => show sunOf lat n (720 - m) = pathAt (stillOf lat n) (movesOf lat n) m by rw [path_sun, from_le h]
  have HA := Lib.hid (show ∀ m, 0 ≤ m → m ≤ 720 → ∀ b w, w.cell? ⟨b, 0, none⟩ = some (.int .i64 (stillOf lat n)) → w.cell? ⟨b, 1, none⟩ = some (.int .i64 (movesOf lat n)) → Calls Tryd.prog 93 #[.pointer (some ⟨b, 0, none⟩), .int .i64 m] w (Ret1 (sunOf lat n (720 - m)) w) from
    fun m m0 m1 b w q0 q1 => by rw [HN m m1]; exact sat_any (stillOf lat n) (movesOf lat n) m b w q0 q1 hab.1 hab.2 hbb.1 hbb.2 m0 (by omega))
  have HM := Lib.hid (show ∀ t m, 0 ≤ t → t ≤ m → m ≤ 720 → sunOf lat n (720 - t) ≤ sunOf lat n (720 - m) from fun t m t0 tm m1 => sun_mono l0 l1 (by omega) (by omega) (by omega) (by omega) (by omega))
  have HR := Lib.hid (show ∀ k, 0 ≤ k → k ≤ 720 → -14000 ≤ sunOf lat n (720 - k) → (∀ m, 0 ≤ m → m < k → sunOf lat n (720 - m) < -14000) → k = r from fun k k0 k1 k2 k3 => RiseIs.one l0 l1 (by omega) (by omega) (.inr ⟨k0, k1, k2, k3⟩) hr)
  have hnoon : -14000 ≤ sunOf lat n (720 - 720) := by
    have := lit_noon l0 l1 (show 0 ≤ n by omega) (by omega) hr h0
    unfold litS at this
    rw [from_le (by omega)] at this
    simpa using this
  have HSB := Lib.hid (show ∀ m, 0 ≤ m → m ≤ 720 → -2000000 ≤ sunOf lat n (720 - m) ∧ sunOf lat n (720 - m) ≤ 2000000 from fun m m0 m1 => by rw [HN m m1]; exact path_bd _ _ _ hab.1 hab.2 hbb.1 hbb.2)
  obtain ⟨a, ea⟩ : ∃ a, a = stillOf lat n := ⟨_, rfl⟩
  obtain ⟨b, eb⟩ : ∃ b, b = movesOf lat n := ⟨_, rfl⟩
  have HA := Lib.hid (show ∀ m, 0 ≤ m → m ≤ 720 → ∀ c w, w.cell? ⟨c, 0, none⟩ = some (.int .i64 a) → w.cell? ⟨c, 1, none⟩ = some (.int .i64 b) → Calls Tryd.prog 93 #[.pointer (some ⟨c, 0, none⟩), .int .i64 m] w (Ret1 (sunOf lat n (720 - m)) w) from by rw [ea, eb]; exact HA.out)
  rw [← ea, ← eb] at HO
  have HO := Lib.hid HO
  have HA0 := HA.out 720 (by omega) (by omega)
  obtain ⟨v, ev⟩ : ∃ v, v = sunOf lat n (720 - 720) := ⟨_, rfl⟩
  rw [← ev] at HA0 hnoon
  have HA0 := Lib.hid HA0
  have HNO := Lib.hid (And.intro ev hnoon)
  clear h hr ea eb hab hbb HN hnb ev
  go_enter Tryd.func62, Tryd.ntmps62
  go_wp2_with (first
    | (go_at_call 92; refine (HO.out _).mono ?_; rintro e w1 ⟨rfl, hb⟩; have hsz := hb.size; have ac := hb.alloc hb.size (.cells #[.int .i64 a, .int .i64 b] 105))
    | (go_at_call 93; refine (HA0.out w1.heap.size _ (by go_cell) (by go_cell)).mono ?_; rintro e w2 ⟨rfl, hb2⟩; have q0 := Lib.hid (cell_below (a := ⟨w1.heap.size, 0, none⟩) (v := .int .i64 a) (by go_cell) hb2); have q1 := Lib.hid (cell_below (a := ⟨w1.heap.size, 1, none⟩) (v := .int .i64 b) (by go_cell) hb2); have ac2 := Lib.hid (Below.next ac hb2); clear hb2))
  go_loopw [6, 7] (fun s6 s7 wr => ∃ lo hi : Int, s6 = .int .i64 lo ∧ s7 = .int .i64 hi ∧ 0 ≤ lo ∧ lo ≤ hi ∧ hi ≤ 720 ∧ Hid (∀ m, 0 ≤ m → m < lo → sunOf lat n (720 - m) < -14000) ∧ Hid (-14000 ≤ sunOf lat n (720 - hi)) ∧ Hid (wr.cell? ⟨w1.heap.size, 0, none⟩ = some (.int .i64 a)) ∧ Hid (wr.cell? ⟨w1.heap.size, 1, none⟩ = some (.int .i64 b)) ∧ Hid (Below w.heap.size w wr)) (fun s6 s7 _ => (intOf s7 - intOf s6).toNat)
  case atStart => exact ⟨0, 720, rfl, rfl, by omega, by omega, by omega, Lib.hid (fun m m0 m1 => by omega), Lib.hid (by rw [← HNO.out.1]; exact HNO.out.2), q0, q1, ac2⟩
  case round =>
    obtain ⟨lo, hi, rfl, rfl, lo0, lh, hi1, HLO, HHI, q0, q1, ac2⟩ := hrel
    by_cases c : lo < hi
    · have HAM := HA.out ((lo + hi) / 2) (by omega) (by omega)
      have hlim := HSB.out ((lo + hi) / 2) (by omega) (by omega)
      obtain ⟨v2, ev2⟩ : ∃ v2, v2 = sunOf lat n (720 - (lo + hi) / 2) := ⟨_, rfl⟩
      rw [← ev2] at HAM hlim
      have HAM := Lib.hid HAM
      obtain ⟨l2, l3⟩ := hlim
      by_cases cv : -14000 ≤ v2
      · have HN := Lib.hid (show -14000 ≤ sunOf lat n (720 - (lo + hi) / 2) by rw [← ev2]; exact cv)
        clear ev2
        go_wp2_with (first
          | (go_at_call 93; refine (HAM.out w1.heap.size _ q0.out q1.out).mono ?_; rintro e w3 ⟨rfl, hb3⟩; have q0 := Lib.hid (cell_below q0.out hb3); have q1 := Lib.hid (cell_below q1.out hb3); have ac2 := Lib.hid (Below.next ac2.out hb3); clear hb3))
        go_roundw
        case rel => exact ⟨lo, (lo + hi) / 2, rfl, rfl, lo0, by omega, by omega, HLO, HN, q0, q1, ac2⟩
        case measure => simp [intOf]; omega
      · have HN := Lib.hid (show ∀ m, 0 ≤ m → m < (lo + hi) / 2 + 1 → sunOf lat n (720 - m) < -14000 from fun m m0 m1 => by
          have := HM.out m ((lo + hi) / 2) m0 (by omega) (by omega)
          omega)
        clear ev2
        go_wp2_with (first
          | (go_at_call 93; refine (HAM.out w1.heap.size _ q0.out q1.out).mono ?_; rintro e w3 ⟨rfl, hb3⟩; have q0 := Lib.hid (cell_below q0.out hb3); have q1 := Lib.hid (cell_below q1.out hb3); have ac2 := Lib.hid (Below.next ac2.out hb3); clear hb3))
        go_roundw
        case rel => exact ⟨(lo + hi) / 2 + 1, hi, rfl, rfl, by omega, by omega, by omega, HN, HHI, q0, q1, ac2⟩
        case measure => simp [intOf]; omega
    · obtain rfl : lo = hi := by omega
      have HV := Lib.hid (HR.out lo lo0 hi1 HHI.out HLO.out)
      go_wp2
      go_ret
      exact ⟨ret_i HV.out, ac2.out⟩
theorem srise_any (lat D n r : Int) (w : World) (h : DoyIs D n) (hD : D ≤ 99999) (l0 : -66 ≤ lat) (l1 : lat ≤ 66) (hr : RiseIs lat n r) :
    Calls Tryd.prog 62 #[.int .i64 lat, .int .i64 D] w (Ret1 r w) := by
  by_cases c : 0 ≤ r
  · exact srise_some lat D n r w h hD l0 l1 hr c
  · have := hr.le
    obtain rfl : r = -1 := by omega
    exact srise_none lat D n w h hD hr

theorem sset_zero (lat D n : Int) (w : World) (h : DoyIs D n) (hD : D ≤ 99999) (l0 : -66 ≤ lat) (l1 : lat ≤ 66) (hr : RiseIs lat n 0) :
    Calls Tryd.prog 63 #[.int .i64 lat, .int .i64 D, .int .i64 0] w (Ret1 1440 w) := by
  have hnb := h.bd
  have HO := fun w => sof_any lat D n w h hD
  have hab := still_bd lat n
  have hbb := moves_bd lat n
  have hz : -14000 ≤ pathAt (stillOf lat n) (movesOf lat n) 1439 := by
    have := lit_iff (m := 1439) l0 l1 (show 0 ≤ n by omega) (by omega) hr (by omega) (by omega) (by omega)
    unfold litS setOf at this
    rw [path_sun]
    simpa using this
  have HA := fun b w q0 q1 => sat_any (stillOf lat n) (movesOf lat n) 1439 b w q0 q1 hab.1 hab.2 hbb.1 hbb.2 (by omega) (by omega)
  obtain ⟨a, ea⟩ : ∃ a, a = stillOf lat n := ⟨_, rfl⟩
  obtain ⟨b, eb⟩ : ∃ b, b = movesOf lat n := ⟨_, rfl⟩
  rw [← ea, ← eb] at HO HA hz
  obtain ⟨v, ev⟩ : ∃ v, v = pathAt a b 1439 := ⟨_, rfl⟩
  rw [← ev] at HA hz
  have HO := Lib.hid HO
  have HA := Lib.hid HA
  clear h hr ea eb ev hab hbb hnb
  go_enter Tryd.func63, Tryd.ntmps63
  go_wp2_with (first
    | (go_at_call 92; refine (HO.out _).mono ?_; rintro e w1 ⟨rfl, hb⟩; have hsz := hb.size; have ac := hb.alloc hb.size (.cells #[.int .i64 a, .int .i64 b] 105))
    | (go_at_call 93; refine (HA.out w1.heap.size _ (by go_cell) (by go_cell)).mono ?_; rintro e w2 ⟨rfl, hb2⟩; have ac2 := Lib.hid (Below.next ac hb2); clear hb2))
  go_ret
  exact ⟨rfl, ac2.out⟩
theorem sset_more (lat D r : Int) (w : World) (h0 : 0 < r) (h1 : r ≤ 720) :
    Calls Tryd.prog 63 #[.int .i64 lat, .int .i64 D, .int .i64 r] w (Ret1 (1441 - r) w) := by
  have b0 : (r == 0) = false := by rw [beq_eq_false_iff_ne]; omega
  go_enter Tryd.func63, Tryd.ntmps63
  go_wp2
  go_ret
  exact ⟨rfl, Below.refl _ _⟩
theorem sset_any (lat D n r : Int) (w : World) (h : DoyIs D n) (hD : D ≤ 99999) (l0 : -66 ≤ lat) (l1 : lat ≤ 66) (hr : RiseIs lat n r) (h0 : 0 ≤ r) :
    Calls Tryd.prog 63 #[.int .i64 lat, .int .i64 D, .int .i64 r] w (Ret1 (setOf r) w) := by
  by_cases c : r = 0
  · subst c
    exact sset_zero lat D n w h hD l0 l1 hr
  · rw [show setOf r = 1441 - r by unfold setOf; rw [if_neg c]]
    exact sset_more lat D r w (by omega) hr.le.2

theorem sdark_any (lat D n r : Int) (w : World) (h : DoyIs D n) (hD : D ≤ 99999) (l0 : -66 ≤ lat) (l1 : lat ≤ 66) (hr : RiseIs lat n r) :
    Calls Tryd.prog 64 #[.int .i64 lat, .int .i64 D] w (Ret1 (darkOf r) w) := by
  have hle := hr.le
  have HR := Lib.hid (fun w => srise_any lat D n r w h hD l0 l1 hr)
  by_cases c : r < 0
  · have HV := Lib.hid (show darkOf r = 1440 by unfold darkOf; rw [if_pos c])
    clear h hr
    go_enter Tryd.func64, Tryd.ntmps64
    go_wp2_with (first
      | (go_at_call 62; refine (HR.out _).mono ?_; rintro e w1 ⟨rfl, hb⟩))
    go_ret
    exact ⟨ret_i HV.out.symm, hb⟩
  · have HV := Lib.hid (show darkOf r = 1440 - (setOf r - r) by unfold darkOf; rw [if_neg c])
    have HS := Lib.hid (fun w => sset_any lat D n r w h hD l0 l1 hr (by omega))
    have hsb := setOf_bd (show 0 ≤ r by omega) hle.2
    obtain ⟨s, es⟩ : ∃ s, s = setOf r := ⟨_, rfl⟩
    rw [← es] at HV HS hsb
    obtain ⟨s0, s1, s2⟩ := hsb
    clear h hr es
    go_enter Tryd.func64, Tryd.ntmps64
    go_wp2_with (first
      | (go_at_call 62; refine (HR.out _).mono ?_; rintro e w1 ⟨rfl, hb⟩; have ac := Lib.hid hb; clear hb)
      | (go_at_call 63; refine (HS.out _).mono ?_; rintro e w2 ⟨rfl, hb⟩; have ac2 := Lib.hid (Below.next ac.out hb); clear hb))
    go_ret
    exact ⟨ret_i HV.out.symm, ac2.out⟩
end Go.Proofs.YtagebpmciimcgabDoor
