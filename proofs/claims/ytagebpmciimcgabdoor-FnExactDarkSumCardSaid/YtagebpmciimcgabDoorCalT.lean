/- The model's answers on dates. -/
import Derived.Test.YtagebpmciimcgabDoorCalS
namespace Go.Proofs.YtagebpmciimcgabDoor
open Go.ChangeShapes Go.WideShapes Go.ChangeAt Go.RowKit Pm




theorem sdayofyear_yes (n y m d : Int) (w : World) (h : DateIs n y m d) (hn : n ≤ 99999) :
    Calls Tryd.prog 128 #[.int .i64 n] w (Same2 (n - yearAt y + 1) 0 w) := by
  have h0 := h.1
  have hy := h.year hn
  have hn0 := h.nn
  have hin : inB 0 99999 [n] = true := by simp [inB]; omega
  have HD := Lib.hid (fun w => hin ▸ sday_any n w)
  clear hin
  have HT := Lib.hid (fun w => sdate_any n y m d w h hn)
  have HN := fun w => snumber_any y 1 1 w h0 (by omega) (by omega) (by omega) (by omega) (by omega)
  rw [show dnumOf y 1 1 = yearAt y by unfold dnumOf; rw [monthAt_first]; omega] at HN
  have hb := yearAt_bd h0 (show y ≤ 2400 by omega)
  obtain ⟨ya, hya⟩ : ∃ ya, ya = yearAt y := ⟨_, rfl⟩
  rw [← hya] at HN hb ⊢
  have HN := Lib.hid HN
  clear h hya
  go_enter Tryd.func128, Tryd.ntmps128
  go_wp2_with (first
    | (go_at_call 141; refine (HD.out _).mono ?_; rintro e w1 ⟨rfl, rfl⟩)
    | (go_at_call 142; refine (HT.out _).mono ?_; rintro e w1 ⟨rfl, rfl⟩)
    | (go_at_call 143; refine (HN.out _).mono ?_; rintro e w1 ⟨rfl, rfl⟩))
  go_ret2
  exact ⟨rfl, rfl⟩
theorem sdayofyear_no (n : Int) (w : World) (h : inB 0 99999 [n] = false) :
    Calls Tryd.prog 128 #[.int .i64 n] w (Same2 0 2 w) := by
  have HD := Lib.hid (fun w => h ▸ sday_any n w)
  clear h
  go_enter Tryd.func128, Tryd.ntmps128
  go_wp2_with (first
    | (go_at_call 141; refine (HD.out _).mono ?_; rintro e w1 ⟨rfl, rfl⟩))
  go_ret2
  exact ⟨rfl, rfl⟩


/-! ### Months later -/

/-- The lesser of two. -/
def minI (a b : Int) : Int := if a < b then a else b

end Go.Proofs.YtagebpmciimcgabDoor
