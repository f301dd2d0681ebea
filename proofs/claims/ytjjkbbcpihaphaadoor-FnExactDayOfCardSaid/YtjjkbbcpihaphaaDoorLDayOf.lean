/- The law of DayOf. -/
import Derived.Test.YtjjkbbcpihaphaaDoorCalT
import Derived.Test.YtjjkbbcpihaphaaDoorCalL
namespace Go.Proofs.YtjjkbbcpihaphaaDoor
open Go.ChangeShapes Go.WideShapes Go.ChangeAt Go.RowKit Pm

theorem dayof_law (y m d : Int) (w : World) (hL : laidMetH Tryd.prog Rows.fnExactDayOfRow.laid w) :
    Calls Tryd.prog 5 #[.int .i64 y, .int .i64 m, .int .i64 d] w fun e w' => e = .returned (.bool true) ∧ Below w.heap.size w w' := by
  rw [MakeChecks.laidMetH_plain _ _ _ (by kernel_rfl)] at hL
  have HM := Lib.hid (months_of hL)
  clear hL
  have HS := fun w => sdayof_any y m d w
  have HI := fun w hM => dayof_any y m d w hM
  obtain ⟨p, hp⟩ : ∃ p, p = dayV y m d := ⟨_, rfl⟩
  rw [← hp] at HS HI
  clear hp
  obtain ⟨a, b⟩ := p
  have HS := Lib.hid (show ∀ w, Calls Tryd.prog 26 #[.int .i64 y, .int .i64 m, .int .i64 d] w (Same2 a b w) from HS)
  have HI := Lib.hid (show ∀ w, MonthsAt w → Calls Tryd.prog 14 #[.int .i64 y, .int .i64 m, .int .i64 d] w (Ret2 a b w) from HI)
  go_enter Tryd.func5, Tryd.ntmps5
  go_wp2_with (first
    | (go_at_call 26; refine (HS.out _).mono ?_; rintro e w1 ⟨rfl, rfl⟩)
    | (go_at_call 14; refine (HI.out _ HM.out).mono ?_; rintro e w2 ⟨rfl, hb⟩))
  go_ret
  exact ⟨rfl, hb⟩
end Go.Proofs.YtjjkbbcpihaphaaDoor
