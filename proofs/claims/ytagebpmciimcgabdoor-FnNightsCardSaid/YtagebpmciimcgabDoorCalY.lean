/- The program's calendar: the year of a day, and the day of the year. -/
import Derived.Test.YtagebpmciimcgabDoorCalI
import Derived.Test.YtagebpmciimcgabDoorCalD
import Derived.Deep.RegionHeld3
namespace Go.Proofs.YtagebpmciimcgabDoor
open Go.ChangeShapes Go.WideShapes Go.ChangeAt Go.RowKit Pm

/-- Four numbers are returned. -/
def Ret4 (a b c d : Int) (w : World) (e : Ending) (w' : World) : Prop := e = .returned (.tuple #[.int .i64 a, .int .i64 b, .int .i64 c, .int .i64 d]) ∧ Below w.heap.size w w'
def Ret2 (a b : Int) (w : World) (e : Ending) (w' : World) : Prop := e = .returned (.tuple #[.int .i64 a, .int .i64 b]) ∧ Below w.heap.size w w'
theorem inB_day {n : Int} (h0 : 0 ≤ n) (h1 : n ≤ 99999) : inB 0 99999 [n] = true := by simp [inB]; omega

/-! ### The year of a day -/
theorem yclos_any (d : Int) (b : Nat) (i : Nat) (W : World) (hi : i < 273) (hc : W.cell? ⟨b, 0, none⟩ = some (.int .i64 d)) :
    Calls Tryd.prog 146 (#[.int .i64 i] ++ #[.pointer (some ⟨b, 0, none⟩)]) W fun e w' => e = .returned (.bool (decide (d < yearAt (2000 + (i : Int) + 1)))) ∧ Below W.heap.size W w' := by
  have HY := Lib.hid (fun w => firstday_any (2000 + (i : Int) + 1) w (by omega) (by omega))
  have hi2 : (i : Int) < 273 := by omega
  obtain ⟨z, hz⟩ : ∃ z, z = yearAt (2000 + (i : Int) + 1) := ⟨_, rfl⟩
  rw [← hz] at HY ⊢
  clear hz
  have e1 : IntKind.i64.wrap (2000 + (i : Int)) = 2000 + i := IntWalk.i64_in _ (by omega)
  have e2 : IntKind.i64.wrap (2000 + (i : Int) + 1) = 2000 + i + 1 := IntWalk.i64_in _ (by omega)
  go_enter Tryd.func146, Tryd.ntmps146
  go_wp2_with (fail)
  go_region_held3 (fun w' => w'.cell? ⟨b, 0, none⟩ = some (.int .i64 d) ∧ Below W.heap.size W w')
    (first | assumption | exact keep1 (by assumption) (by assumption) | exact drew1 (by assumption) | exact ⟨by go_cell, by go_grown⟩)
    (first | (go_at_call 139; refine (HY.out _).mono ?_; rintro e w1 ⟨rfl, rfl⟩))
  go_wp2
  go_ret
  exact ⟨retB rfl, keepB1 (by assumption)⟩

theorem yearof_any (n y m d : Int) (w : World) (h : DateIs n y m d) (hn : n ≤ 99999) :
    Calls Tryd.prog 140 #[.int .i64 n] w fun e w' => e = .returned (.int .i64 y) ∧ Below w.heap.size w w' := by
  have h0 := h.1
  have hy := h.year hn
  have hin := h.inYear
  have eg : ∀ args w, (callFunc 146 args).run Tryd.prog w = .ok (.enter 146 args) w := enters_of Tryd.func146 (by kernel_rfl) rfl
  have hS := search_any 146 #[.pointer (some ⟨w.heap.size, 0, none⟩)] 273 (fun i => decide (n < yearAt (2000 + (i : Int) + 1))) (w.alloc (.cells #[.int .i64 n] 2)) eg (by omega)
    (fun W i hi hb => yclos_any n w.heap.size i W hi (cell_below (by go_cell) hb))
    (fun a b hab hb h => by
      have := yearAt_mono (show (2000 + (a : Int) + 1) ≤ 2000 + (b : Int) + 1 by omega)
      simp at h ⊢; omega)
  have HS := Lib.hid hS
  have HF := Lib.hid (show ∀ r : Nat, r ≤ 273 → (∀ t, t < r → (decide (n < yearAt (2000 + (t : Int) + 1))) = false) → (∀ t, r ≤ t → t < 273 → (decide (n < yearAt (2000 + (t : Int) + 1))) = true) → 2000 + (r : Int) = y by
    intro r hr h1 h2
    obtain ⟨k, hk⟩ := Int.eq_ofNat_of_zero_le (show 0 ≤ y - 2000 by omega)
    have hk2 : y = 2000 + (k : Int) := by omega
    subst hk2
    by_cases c : r < k
    · have e := h2 r (Nat.le_refl _) (by omega)
      have := yearAt_mono (show (2000 + (r : Int) + 1) ≤ 2000 + (k : Int) by omega)
      simp at e; omega
    · by_cases c2 : k < r
      · have e := h1 k c2
        simp at e; omega
      · omega)
  clear hS h h0 hy hin eg hn
  go_enter Tryd.func140, Tryd.ntmps140
  go_wp2_with (go_at_call 109; refine HS.out.mono ?_; rintro e w1 ⟨r, rfl, hr, h1, h2, hb⟩; have HR := Lib.hid (HF.out r hr h1 h2); have ac := Below.next (a := w) (by go_grown) hb; clear h1 h2 hb)
  go_ret
  exact ⟨ret_i HR.out, ac⟩

theorem dayofyear_yes (n y m d : Int) (w : World) (h : DateIs n y m d) (hn : n ≤ 99999) :
    Calls Tryd.prog 125 #[.int .i64 n] w (Ret2 (n - yearAt y + 1) 0 w) := by
  have h0 := h.1
  have hy := h.year hn
  have hn0 := h.nn
  have HD := Lib.hid (fun w => (inB_day hn0 hn) ▸ isday_any n w)
  have HY := Lib.hid (fun w => yearof_any n y m d w h hn)
  have HF := Lib.hid (fun w => firstday_any y w h0 (by omega))
  have hb := yearAt_bd h0 (show y ≤ 2400 by omega)
  obtain ⟨ya, hya⟩ : ∃ ya, ya = yearAt y := ⟨_, rfl⟩
  rw [← hya] at HF hb ⊢
  clear hya h
  go_enter Tryd.func125, Tryd.ntmps125
  go_wp2_with (first
    | (go_at_call 138; refine (HD.out _).mono ?_; rintro e w1 ⟨rfl, hb1⟩; have ac := Lib.hid hb1; clear hb1)
    | (go_at_call 140; refine (HY.out _).mono ?_; rintro e w2 ⟨rfl, hb2⟩; have ac2 := Lib.hid (Below.next ac.out hb2); clear hb2)
    | (go_at_call 139; refine (HF.out _).mono ?_; rintro e w3 ⟨rfl, rfl⟩))
  go_ret2
  exact ⟨rfl, ac2.out⟩
theorem dayofyear_no (n : Int) (w : World) (h : inB 0 99999 [n] = false) :
    Calls Tryd.prog 125 #[.int .i64 n] w (Ret2 0 2 w) := by
  have HD := Lib.hid (fun w => h ▸ isday_any n w)
  clear h
  go_enter Tryd.func125, Tryd.ntmps125
  go_wp2_with (first
    | (go_at_call 138; refine (HD.out _).mono ?_; rintro e w1 ⟨rfl, hb1⟩; have ac := Lib.hid hb1; clear hb1))
  go_ret2
  exact ⟨rfl, ac.out⟩
end Go.Proofs.YtagebpmciimcgabDoor
