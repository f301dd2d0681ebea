/- The law of MonthDays. -/
import Derived.Test.YtjjkbbcpihaphaaDoorCalT
import Derived.Test.YtjjkbbcpihaphaaDoorCalK
namespace Go.Proofs.YtjjkbbcpihaphaaDoor
open Go.ChangeShapes Go.WideShapes Go.ChangeAt Go.RowKit Pm

theorem monthdays_law (y m : Int) (w : World) (hL : laidMetH Tryd.prog Rows.fnExactMonthDaysRow.laid w) :
    Calls Tryd.prog 6 #[.int .i64 y, .int .i64 m] w fun e w' => e = .returned (.bool true) ∧ Below w.heap.size w w' := by
  rw [MakeChecks.laidMetH_plain _ _ _ (by kernel_rfl)] at hL
  have HM := Lib.hid (months_of hL)
  clear hL
  have HS := fun w => smonthdays_any y m w
  have HI := fun w hM => monthdays_any y m w hM
  obtain ⟨p, hp⟩ : ∃ p, p = mdV y m := ⟨_, rfl⟩
  rw [← hp] at HS HI
  clear hp
  obtain ⟨a, b⟩ := p
  have HS := Lib.hid (show ∀ w, Calls Tryd.prog 27 #[.int .i64 y, .int .i64 m] w (Same2 a b w) from HS)
  have HI := Lib.hid (show ∀ w, MonthsAt w → Calls Tryd.prog 17 #[.int .i64 y, .int .i64 m] w (Ret2 a b w) from HI)
  go_enter Tryd.func6, Tryd.ntmps6
  go_wp2_with (first
    | (go_at_call 27; refine (HS.out _).mono ?_; rintro e w1 ⟨rfl, rfl⟩)
    | (go_at_call 17; refine (HI.out _ HM.out).mono ?_; rintro e w2 ⟨rfl, hb⟩))
  go_ret
  exact ⟨rfl, hb⟩
end Go.Proofs.YtjjkbbcpihaphaaDoor
