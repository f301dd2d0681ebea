/- The program's daylight: sunrise, sunset, and the minutes without it. -/
import Derived.Test.YtagebpmciimcgabDoorSunF
namespace Go.Proofs.YtagebpmciimcgabDoor
open Go.ChangeShapes Go.WideShapes Go.ChangeAt Go.RowKit Pm

def Ret3 (a b c : Int) (w : World) (e : Ending) (w' : World) : Prop := e = .returned (.tuple #[.int .i64 a, .int .i64 b, .int .i64 c]) ∧ Below w.heap.size w w'
theorem ret3 {a b c d x y : Int} (h : a = b) (k : c = d) (l : x = y) : Ending.returned (.tuple #[.int .i64 a, .int .i64 c, .int .i64 x]) = .returned (.tuple #[.int .i64 b, .int .i64 d, .int .i64 y]) := by rw [h, k, l]
theorem lit_same (lat n m : Int) : litB (stillOf lat n) (movesOf lat n) m = litS lat n m := rfl

theorem daylight_err (lat D a b : Int) (w : World) (h : Calls Tryd.prog 85 #[.int .i64 lat, .int .i64 D] w (RetPath a b 2 w)) :
    Calls Tryd.prog 52 #[.int .i64 lat, .int .i64 D] w (Ret3 0 0 2 w) := by
  have HD := Lib.hid h
  clear h
  go_enter Tryd.func52, Tryd.ntmps52
  go_wp2_with (first
    | (go_at_call 85; refine HD.out.mono ?_; rintro e w1 ⟨rfl, hb⟩; have hsz := hb.size))
  go_returns
  exact ⟨rfl, by go_grown⟩

theorem daylight_dark (lat D n : Int) (w : World) (hS : SinesAt w) (h : DoyIs D n) (hD : D ≤ 99999) (hl : inB (-66) 66 [lat] = true) (hr : RiseIs lat n (-1)) :
    Calls Tryd.prog 52 #[.int .i64 lat, .int .i64 D] w (Ret3 0 0 3 w) := by
  have hlb : -66 ≤ lat ∧ lat ≤ 66 := by simpa [inB] using hl
  have hnb := h.bd
  have HD := path_yes lat D n w hS h hD hl
  have hab := still_bd lat n
  have hbb := moves_bd lat n
  have HC := fun w hS => islight_any (stillOf lat n) (movesOf lat n) 720 w hS hab.1 hab.2 hbb.1 hbb.2 (by omega) (by omega)
  rw [lit_same, lit_none hlb.1 hlb.2 (by omega) (by omega) hr (by omega) (by omega)] at HC
  obtain ⟨a, ea⟩ : ∃ a, a = stillOf lat n := ⟨_, rfl⟩
  obtain ⟨b, eb⟩ : ∃ b, b = movesOf lat n := ⟨_, rfl⟩
  rw [← ea, ← eb] at HD HC
  have HD := Lib.hid HD
  have HC := Lib.hid HC
  have HS := Lib.hid hS
  clear h hl hS ea eb hab hbb hlb hnb hr
  go_enter Tryd.func52, Tryd.ntmps52
  go_wp2_with (first
    | (go_at_call 85; refine HD.out.mono ?_; rintro e w1 ⟨rfl, hb⟩; have hsz := hb.size)
    | (go_at_call 86; refine (HC.out _ (HS.out.below (by go_grown))).mono ?_; rintro e w2 ⟨rfl, hb2⟩; have ac := Below.next (a := w) (by go_grown) hb2; clear hb2))
  go_returns
  exact ⟨rfl, ac⟩

set_option maxHeartbeats 1000000 in
theorem daylight_yes (lat D n r : Int) (w : World) (hS : SinesAt w) (h : DoyIs D n) (hD : D ≤ 99999) (hl : inB (-66) 66 [lat] = true) (hr : RiseIs lat n r) (h0 : 0 ≤ r) :
    Calls Tryd.prog 52 #[.int .i64 lat, .int .i64 D] w (Ret3 r (setOf r) 0 w) := by
  have hlb : -66 ≤ lat ∧ lat ≤ 66 := by simpa [inB] using hl
  have hnb := h.bd
  have HD := path_yes lat D n w hS h hD hl
  have hab := still_bd lat n
  have hbb := moves_bd lat n
  have HC := fun w hS => islight_any (stillOf lat n) (movesOf lat n) 720 w hS hab.1 hab.2 hbb.1 hbb.2 (by omega) (by omega)
  rw [lit_same, lit_noon hlb.1 hlb.2 (by omega) (by omega) hr h0] at HC
  have HA := fun w hS => firstA (stillOf lat n) (movesOf lat n) w hS hab.1 hab.2 hbb.1 hbb.2 (rise_up hlb.1 hlb.2 (by omega) (by omega) hr h0)
  have HB := fun pb w hS c0 c1 => firstB (stillOf lat n) (movesOf lat n) pb w hS hab.1 hab.2 hbb.1 hbb.2 c0 c1 (set_up hlb.1 hlb.2 (by omega) (by omega) hr h0)
  have HA2 := Lib.hid (fun (k : Nat) hk => rise_first (lat := lat) (n := n) k hlb.1 hlb.2 (by omega) (by omega) hr h0 hk)
  have HB2 := Lib.hid (fun (k : Nat) hk => set_first (lat := lat) (n := n) k hlb.1 hlb.2 (by omega) (by omega) hr h0 hk)
  have HLS := Lib.hid (show ∀ m, litB (stillOf lat n) (movesOf lat n) m = litS lat n m from lit_same lat n)
  obtain ⟨a, ea⟩ : ∃ a, a = stillOf lat n := ⟨_, rfl⟩
  obtain ⟨b, eb⟩ : ∃ b, b = movesOf lat n := ⟨_, rfl⟩
  rw [← ea, ← eb] at HD HC HA HB HLS
  have HD := Lib.hid HD
  have HC := Lib.hid HC
  have HA := Lib.hid (show ∀ w, SinesAt w → Calls Tryd.prog 87 #[.int .i64 0, .int .i64 720, .func (.func 86) #[.agg #[.int .i64 a, .int .i64 b]] #[]] w (FirstRet (litB a b) 0 720 w) from HA)
  have HB := Lib.hid (show ∀ pb w, SinesAt w → w.cell? ⟨pb, 0, none⟩ = some (.int .i64 a) → w.cell? ⟨pb, 1, none⟩ = some (.int .i64 b) → Calls Tryd.prog 87 #[.int .i64 720, .int .i64 1440, .func (.func 88) #[] #[.pointer (some ⟨pb, 0, none⟩)]] w (FirstRet (fun t => !litB a b t) 720 720 w) from HB)
  have HS := Lib.hid hS
  clear h hl hS ea eb hab hbb hlb hnb hr
  go_enter Tryd.func52, Tryd.ntmps52
  go_wp2_with (first
    | (go_at_call 85; refine HD.out.mono ?_; rintro e w1 ⟨rfl, hb⟩; have hsz := hb.size; have ac := hb.alloc hb.size (.cells #[.int .i64 a, .int .i64 b] 99); clear hb)
    | (go_at_call 86; refine (HC.out _ (HS.out.below (by go_grown))).mono ?_; rintro e w2 ⟨rfl, hb⟩; have c0 := cell_below (a := ⟨w1.heap.size, 0, none⟩) (v := .int .i64 a) (by go_cell) hb; have c1 := cell_below (a := ⟨w1.heap.size, 1, none⟩) (v := .int .i64 b) (by go_cell) hb; have ac2 := Lib.hid (Below.next ac hb); clear hb ac)
    | (go_at_call 87; ((with_reducible refine (HA.out _ (HS.out.below ac2.out)).mono ?_); rintro e w3 ⟨k, rfl, hk, f1, f2, hb⟩; have K1 := Lib.hid (HA2.out k hk (fun t ht => by rw [← HLS.out]; exact f1 t ht) (fun t h1 h2 => by rw [← HLS.out]; exact f2 t h1 h2)); have c0 := cell_below c0 hb; have c1 := cell_below c1 hb; have ac2 := Lib.hid (Below.next ac2.out hb); clear hb f1 f2))
    | (go_at_call 87; ((with_reducible refine (HB.out w1.heap.size _ (HS.out.below ac2.out) c0 c1).mono ?_); rintro e w4 ⟨k2, rfl, hk2, f1, f2, hb⟩; have K2 := Lib.hid (HB2.out k2 hk2 (fun t ht => by rw [← HLS.out]; exact f1 t ht) (fun t h1 h2 => by rw [← HLS.out]; exact f2 t h1 h2)); have ac3 := Lib.hid (Below.next ac2.out hb); clear hb f1 f2)))
  go_returns
  exact ⟨ret3 K1.out K2.out rfl, ac3.out⟩

/-! ### Sunrise, sunset, dark minutes -/
theorem sunrise_err (lat D : Int) (w : World) (c : Int) (b : Int) (a : Int) (h : ∀ w, SinesAt w → Calls Tryd.prog 52 #[.int .i64 lat, .int .i64 D] w (Ret3 a b c w)) (hS : SinesAt w) :
    Calls Tryd.prog 22 #[.int .i64 lat, .int .i64 D] w (Ret2 a c w) := by
  have HD := Lib.hid (h w hS)
  clear h hS
  go_enter Tryd.func22, Tryd.ntmps22
  go_wp2_with (first
    | (go_at_call 52; refine HD.out.mono ?_; rintro e w1 ⟨rfl, hb⟩))
  go_ret2
  exact ⟨rfl, hb⟩
theorem sunset_err (lat D : Int) (w : World) (c : Int) (b : Int) (a : Int) (h : ∀ w, SinesAt w → Calls Tryd.prog 52 #[.int .i64 lat, .int .i64 D] w (Ret3 a b c w)) (hS : SinesAt w) :
    Calls Tryd.prog 23 #[.int .i64 lat, .int .i64 D] w (Ret2 b c w) := by
  have HD := Lib.hid (h w hS)
  clear h hS
  go_enter Tryd.func23, Tryd.ntmps23
  go_wp2_with (first
    | (go_at_call 52; refine HD.out.mono ?_; rintro e w1 ⟨rfl, hb⟩))
  go_ret2
  exact ⟨rfl, hb⟩
theorem dark_err (lat D : Int) (w : World) (h : ∀ w, SinesAt w → Calls Tryd.prog 52 #[.int .i64 lat, .int .i64 D] w (Ret3 0 0 2 w)) (hS : SinesAt w) :
    Calls Tryd.prog 21 #[.int .i64 lat, .int .i64 D] w (Ret2 0 2 w) := by
  have HD := Lib.hid (h w hS)
  clear h hS
  go_enter Tryd.func21, Tryd.ntmps21
  go_wp2_with (first
    | (go_at_call 52; refine HD.out.mono ?_; rintro e w1 ⟨rfl, hb⟩))
  go_ret2
  exact ⟨rfl, hb⟩
theorem dark_all (lat D : Int) (w : World) (h : ∀ w, SinesAt w → Calls Tryd.prog 52 #[.int .i64 lat, .int .i64 D] w (Ret3 0 0 3 w)) (hS : SinesAt w) :
    Calls Tryd.prog 21 #[.int .i64 lat, .int .i64 D] w (Ret2 1440 0 w) := by
  have HD := Lib.hid (h w hS)
  clear h hS
  go_enter Tryd.func21, Tryd.ntmps21
  go_wp2_with (first
    | (go_at_call 52; refine HD.out.mono ?_; rintro e w1 ⟨rfl, hb⟩))
  go_ret2
  exact ⟨rfl, hb⟩
theorem dark_some (lat D a b : Int) (w : World) (a0 : 0 ≤ a) (a1 : a ≤ 1440) (b0 : 0 ≤ b) (b1 : b ≤ 1440) (h : ∀ w, SinesAt w → Calls Tryd.prog 52 #[.int .i64 lat, .int .i64 D] w (Ret3 a b 0 w)) (hS : SinesAt w) :
    Calls Tryd.prog 21 #[.int .i64 lat, .int .i64 D] w (Ret2 (1440 - (b - a)) 0 w) := by
  have HD := Lib.hid (h w hS)
  clear h hS
  go_enter Tryd.func21, Tryd.ntmps21
  go_wp2_with (first
    | (go_at_call 52; refine HD.out.mono ?_; rintro e w1 ⟨rfl, hb⟩))
  go_ret2
  exact ⟨rfl, hb⟩

theorem daylight_no (lat D : Int) (w : World) (hS : SinesAt w) (h : askB lat D = false) :
    Calls Tryd.prog 52 #[.int .i64 lat, .int .i64 D] w (Ret3 0 0 2 w) := by
  cases hd : inB 0 99999 [D]
  · exact daylight_err lat D 0 0 w (path_no1 lat D w hd)
  · have hb : 0 ≤ D ∧ D ≤ 99999 := by simpa [inB] using hd
    have hl : inB (-66) 66 [lat] = false := by
      unfold askB at h
      rwa [hd, Bool.and_true] at h
    obtain ⟨n, hn⟩ := doy_ex hb.1
    exact daylight_err lat D 0 0 w (path_no2 lat D n w hS hn hb.2 hl)
theorem daylight_in (lat D n r : Int) (w : World) (hS : SinesAt w) (h : askB lat D = true) (hn : DoyIs D n) (hr : RiseIs lat n r) :
    Calls Tryd.prog 52 #[.int .i64 lat, .int .i64 D] w (Ret3 (dayL r).1 (dayL r).2.1 (dayL r).2.2 w) := by
  obtain ⟨hl, _, hD⟩ := ask_out h
  by_cases c : r < 0
  · have e := hr.le
    obtain rfl : r = -1 := by omega
    exact daylight_dark lat D n w hS hn hD hl hr
  · rw [show dayL r = (r, setOf r, 0) by unfold dayL; rw [if_neg c]]
    exact daylight_yes lat D n r w hS hn hD hl hr (by omega)
theorem dark_in (lat D n r : Int) (w : World) (hS : SinesAt w) (h : askB lat D = true) (hn : DoyIs D n) (hr : RiseIs lat n r) :
    Calls Tryd.prog 21 #[.int .i64 lat, .int .i64 D] w (Ret2 (darkOf r) 0 w) := by
  have HD := fun w hS => daylight_in lat D n r w hS h hn hr
  by_cases c : r < 0
  · have e := hr.le
    rw [show dayL r = (0, 0, 3) by unfold dayL; rw [if_pos c]] at HD
    rw [show darkOf r = 1440 by unfold darkOf; rw [if_pos c]]
    exact dark_all lat D w HD hS
  · have e := hr.le
    have b := setOf_bd (show 0 ≤ r by omega) e.2
    rw [show dayL r = (r, setOf r, 0) by unfold dayL; rw [if_neg c]] at HD
    rw [show darkOf r = 1440 - (setOf r - r) by unfold darkOf; rw [if_neg c]]
    exact dark_some lat D r (setOf r) w (by omega) (by omega) (by omega) (by omega) HD hS
theorem dark_no (lat D : Int) (w : World) (hS : SinesAt w) (h : askB lat D = false) :
    Calls Tryd.prog 21 #[.int .i64 lat, .int .i64 D] w (Ret2 0 2 w) :=
  dark_err lat D w (fun w hS => daylight_no lat D w hS h) hS
end Go.Proofs.YtagebpmciimcgabDoor
