/- The program's height of the sun at a minute, and the kind of light. -/
import Derived.Test.YtagebpmciimcgabDoorSunP
namespace Go.Proofs.YtagebpmciimcgabDoor
open Go.ChangeShapes Go.WideShapes Go.ChangeAt Go.RowKit Pm

set_option maxHeartbeats 1000000 in
theorem sineat_any (mid sw mn : Int) (w : World) (hS : SinesAt w) (a0 : -1000000 ≤ mid) (a1 : mid ≤ 1000000) (s0 : -1000000 ≤ sw) (s1 : sw ≤ 1000000) (m0 : 0 ≤ mn) (m1 : mn ≤ 1440) :
    Calls Tryd.prog 89 #[.agg #[.int .i64 mid, .int .i64 sw], .int .i64 mn] w fun e w' => e = .returned (.int .i64 (pathAt mid sw mn)) ∧ Below w.heap.size w w' := by
  have hg : Pm.greatestOf (mn - 720) [720 - mn] = fromNoon mn := by unfold Pm.greatestOf Pm.greatestOf fromNoon; split <;> split <;> omega
  have hk := noon_bd mn m0 m1
  have hv : pathAt mid sw mn = mid + dvr (sw * hourOf (fromNoon mn)) 1000000 := rfl
  have HG := Lib.hid (fun w sv hs => hg ▸ greatest_any (mn - 720) sv [720 - mn] w hs)
  obtain ⟨k, ek⟩ : ∃ k, k = fromNoon mn := ⟨_, rfl⟩
  rw [← ek] at HG hk hv
  obtain ⟨k0, k1⟩ := hk
  have hh := hourOf_bd k
  have HP := Lib.hid (show ∀ w, SinesAt w → Calls Tryd.prog 111 #[.func (.func 108) #[] #[], .int .i64 (k / 4), .int .i64 (k % 4), .int .i64 4] w fun e w' => e = .returned (.int .i64 (hourOf k)) ∧ Below w.heap.size w w' from
    fun w hS => partcos_any (k / 4) (k % 4) 4 w hS (by omega) (by omega) (by omega) (by omega) (by omega) (by omega))
  obtain ⟨h, eh⟩ : ∃ h, h = hourOf k := ⟨_, rfl⟩
  rw [← eh] at HP hh hv
  have hm := mulAB sw h 1000000 1000000 s0 s1 hh.1 hh.2
  obtain ⟨p, ep⟩ : ∃ p, sw * h = p := ⟨_, rfl⟩
  rw [ep] at hv hm
  have hd := dvr_lim p (by omega) (by omega)
  have HD := Lib.hid (fun w => divroundD p 1000000 w (by omega) (by omega) (by omega) (by omega) (by omega))
  obtain ⟨z, ez⟩ : ∃ z, z = dvr p 1000000 := ⟨_, rfl⟩
  rw [← ez] at hv hd HD
  obtain ⟨z0, z1⟩ := hd
  obtain ⟨p0, p1⟩ := hm
  obtain ⟨h0, h1⟩ := hh
  have HS := Lib.hid hS
  rw [hv]
  clear hg hv ek eh ez hS
  have H1 := ints_one_at (w.alloc (.cells #[.int .i64 mid, .int .i64 sw] 99)) (720 - mn) (w.heap.size + 1) (by simp)
  go_enter Tryd.func89, Tryd.ntmps89
  go_wp2_with (first
    | (go_at_call 78; refine (HG.out _ _ H1).mono ?_; rintro e w1 ⟨rfl, rfl⟩)
    | (go_at_call 111; refine (HP.out _ (HS.out.below (by go_grown))).mono ?_; rintro e w2 ⟨rfl, hb⟩; have ac := Below.next (a := w) (by go_grown) hb; have c0 := cell_below (a := ⟨w.heap.size, 0, none⟩) (v := .int .i64 mid) (by go_cell) hb; have c1 := cell_below (a := ⟨w.heap.size, 1, none⟩) (v := .int .i64 sw) (by go_cell) hb; clear hb))
  have eW : IntKind.i64.wrap p = p := IntWalk.i64_in _ (by omega)
  have eZ : IntKind.i64.wrap (mid + z) = mid + z := IntWalk.i64_in _ (by omega)
  go_region_held3 (fun w' => w'.cell? ⟨w.heap.size, 0, none⟩ = some (.int .i64 mid) ∧ w'.cell? ⟨w.heap.size, 1, none⟩ = some (.int .i64 sw) ∧ Below w.heap.size w w')
    (first | assumption | exact keep2 (by assumption) (by assumption) | exact drew2 (by assumption) | exact drew2 ⟨by assumption, by assumption, by assumption⟩ | exact ⟨by assumption, by assumption, by assumption⟩)
    (first | (go_at_call 106; refine (HD.out _).mono ?_; rintro e w3 ⟨rfl, hb⟩))
  go_wp2
  go_ret
  exact ⟨rfl, keepB2 (by assumption)⟩

/-- Is it light at a minute? -/
def litB (mid sw mn : Int) : Bool := decide (-14000 ≤ pathAt mid sw mn)
theorem islight_any (mid sw mn : Int) (w : World) (hS : SinesAt w) (a0 : -1000000 ≤ mid) (a1 : mid ≤ 1000000) (s0 : -1000000 ≤ sw) (s1 : sw ≤ 1000000) (m0 : 0 ≤ mn) (m1 : mn ≤ 1440) :
    Calls Tryd.prog 86 #[.agg #[.int .i64 mid, .int .i64 sw], .int .i64 mn] w fun e w' => e = .returned (.bool (litB mid sw mn)) ∧ Below w.heap.size w w' := by
  have HC := Lib.hid (fun w hS => sineat_any mid sw mn w hS a0 a1 s0 s1 m0 m1)
  have hb := path_bd mid sw mn a0 a1 s0 s1
  have HV := Lib.hid (show litB mid sw mn = decide (-14000 ≤ pathAt mid sw mn) from rfl)
  obtain ⟨v, ev⟩ : ∃ v, v = pathAt mid sw mn := ⟨_, rfl⟩
  rw [← ev] at HC HV hb
  have HS := Lib.hid hS
  clear ev hS
  go_enter Tryd.func86, Tryd.ntmps86
  go_wp2_with (first
    | (go_at_call 89; refine (HC.out _ (HS.out.below (by go_grown))).mono ?_; rintro e w1 ⟨rfl, hb1⟩; have ac := Below.next (a := w) (by go_grown) hb1; clear hb1))
  go_ret
  exact ⟨retB HV.out.symm, ac⟩

theorem sunsine_no1 (lat D mn : Int) (w : World) (h : inB 0 99999 [D] = false) :
    Calls Tryd.prog 54 #[.int .i64 lat, .int .i64 D, .int .i64 mn] w (Ret2 0 2 w) := by
  have HD := Lib.hid (fun w => path_no1 lat D w h)
  clear h
  go_enter Tryd.func54, Tryd.ntmps54
  go_wp2_with (first
    | (go_at_call 85; refine (HD.out _).mono ?_; rintro e w1 ⟨rfl, hb⟩; have hsz := hb.size))
  go_ret2
  exact ⟨rfl, by go_grown⟩
theorem sunsine_no2 (lat D n mn : Int) (w : World) (hS : SinesAt w) (h : DoyIs D n) (hD : D ≤ 99999) (hl : inB (-66) 66 [lat] = false) :
    Calls Tryd.prog 54 #[.int .i64 lat, .int .i64 D, .int .i64 mn] w (Ret2 0 2 w) := by
  have HD := Lib.hid (path_no2 lat D n w hS h hD hl)
  clear h hl hS
  go_enter Tryd.func54, Tryd.ntmps54
  go_wp2_with (first
    | (go_at_call 85; refine HD.out.mono ?_; rintro e w1 ⟨rfl, hb⟩; have hsz := hb.size))
  go_ret2
  exact ⟨rfl, by go_grown⟩
theorem sunsine_no3 (lat D n mn : Int) (w : World) (hS : SinesAt w) (h : DoyIs D n) (hD : D ≤ 99999) (hl : inB (-66) 66 [lat] = true) (hm : inB 0 1439 [mn] = false) :
    Calls Tryd.prog 54 #[.int .i64 lat, .int .i64 D, .int .i64 mn] w (Ret2 0 2 w) := by
  have HD := path_yes lat D n w hS h hD hl
  obtain ⟨a, ea⟩ : ∃ a, a = stillOf lat n := ⟨_, rfl⟩
  obtain ⟨b, eb⟩ : ∃ b, b = movesOf lat n := ⟨_, rfl⟩
  rw [← ea, ← eb] at HD
  have HD := Lib.hid HD
  have HI := Lib.hid (fun w sv hs => hm ▸ within_any 0 1439 sv [mn] w hs)
  clear h hl hS ea eb hm
  go_enter Tryd.func54, Tryd.ntmps54
  go_wp2_with (first
    | (go_at_call 85; refine HD.out.mono ?_; rintro e w1 ⟨rfl, hb⟩; have hsz := hb.size; have H1 := ints_one_at (w1.alloc (.cells #[.int .i64 a, .int .i64 b] 99)) mn (w1.heap.size + 1) (by simp))
    | (go_at_call 44; refine (HI.out _ _ H1).mono ?_; rintro e w2 ⟨rfl, rfl⟩))
  go_ret2
  exact ⟨rfl, by go_grown⟩
theorem sunsine_yes (lat D n mn : Int) (w : World) (hS : SinesAt w) (h : DoyIs D n) (hD : D ≤ 99999) (hl : inB (-66) 66 [lat] = true) (hm : inB 0 1439 [mn] = true) :
    Calls Tryd.prog 54 #[.int .i64 lat, .int .i64 D, .int .i64 mn] w (Ret2 (sunOf lat n (fromNoon mn)) 0 w) := by
  have hmb : 0 ≤ mn ∧ mn ≤ 1439 := by simpa [inB] using hm
  obtain ⟨m0, m1⟩ := hmb
  have HD := path_yes lat D n w hS h hD hl
  have hab := still_bd lat n
  have hbb := moves_bd lat n
  have HC := fun w hS => sineat_any (stillOf lat n) (movesOf lat n) mn w hS hab.1 hab.2 hbb.1 hbb.2 m0 (by omega)
  rw [← path_sun]
  obtain ⟨a, ea⟩ : ∃ a, a = stillOf lat n := ⟨_, rfl⟩
  obtain ⟨b, eb⟩ : ∃ b, b = movesOf lat n := ⟨_, rfl⟩
  rw [← ea, ← eb] at HD HC ⊢
  obtain ⟨v, ev⟩ : ∃ v, v = pathAt a b mn := ⟨_, rfl⟩
  rw [← ev] at HC ⊢
  have HD := Lib.hid HD
  have HC := Lib.hid HC
  have HS := Lib.hid hS
  have HI := Lib.hid (fun w sv hs => hm ▸ within_any 0 1439 sv [mn] w hs)
  clear h hl hS ea eb hm ev hab hbb
  go_enter Tryd.func54, Tryd.ntmps54
  go_wp2_with (first
    | (go_at_call 85; refine HD.out.mono ?_; rintro e w1 ⟨rfl, hb⟩; have hsz := hb.size; have H1 := ints_one_at (w1.alloc (.cells #[.int .i64 a, .int .i64 b] 99)) mn (w1.heap.size + 1) (by simp))
    | (go_at_call 44; refine (HI.out _ _ H1).mono ?_; rintro e w2 ⟨rfl, rfl⟩)
    | (go_at_call 89; refine (HC.out _ (HS.out.below (by go_grown))).mono ?_; rintro e w3 ⟨rfl, hb3⟩; have ac := Below.next (a := w) (by go_grown) hb3; clear hb3))
  go_ret2
  exact ⟨rfl, ac⟩
end Go.Proofs.YtagebpmciimcgabDoor
