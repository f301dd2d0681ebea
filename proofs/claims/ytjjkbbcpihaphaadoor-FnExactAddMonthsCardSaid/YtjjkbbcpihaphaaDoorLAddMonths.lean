/- The law of AddMonths. -/
import Derived.Test.YtjjkbbcpihaphaaDoorCalT
import Derived.Test.YtjjkbbcpihaphaaDoorCalL
namespace Go.Proofs.YtjjkbbcpihaphaaDoor
open Go.ChangeShapes Go.WideShapes Go.ChangeAt Go.RowKit Pm

theorem addmonths_law (n k : Int) (w : World) (hL : laidMetH Tryd.prog Rows.fnExactAddMonthsRow.laid w) :
    Calls Tryd.prog 7 #[.int .i64 n, .int .i64 k] w fun e w' => e = .returned (.bool true) ∧ Below w.heap.size w w' := by
  rw [MakeChecks.laidMetH_plain _ _ _ (by kernel_rfl)] at hL
  have HM := Lib.hid (months_of hL)
  clear hL
  cases h : inB 0 99999 [n]
  · have HS := Lib.hid (fun w => saddmonths_no1 n k w h)
    have HI := Lib.hid (fun w => addmonths_no1 n k w h)
    clear h
    go_enter Tryd.func7, Tryd.ntmps7
    go_wp2_with (first
      | (go_at_call 28; refine (HS.out _).mono ?_; rintro e w1 ⟨rfl, rfl⟩)
      | (go_at_call 20; refine (HI.out _).mono ?_; rintro e w2 ⟨rfl, hb⟩))
    go_ret
    exact ⟨rfl, hb⟩
  · have hb : 0 ≤ n ∧ n ≤ 99999 := by simpa [inB] using h
    obtain ⟨y, m, d, hd⟩ := date_ex hb.1
    cases hk : inB 0 1200 [k]
    · have HS := Lib.hid (fun w => saddmonths_no2 n k w h hk)
      have HI := Lib.hid (fun w hM => addmonths_no2 n k y m d w hM hd hb.2 hk)
      clear h hb hd hk
      go_enter Tryd.func7, Tryd.ntmps7
      go_wp2_with (first
        | (go_at_call 28; refine (HS.out _).mono ?_; rintro e w1 ⟨rfl, rfl⟩)
        | (go_at_call 20; refine (HI.out _ HM.out).mono ?_; rintro e w2 ⟨rfl, hb⟩))
      go_ret
      exact ⟨rfl, hb⟩
    · have HS := fun w => saddmonths_in n k y m d w hd hb.2 hk
      have HI := fun w hM => addmonths_in n k y m d w hM hd hb.2 hk
      obtain ⟨p, hp⟩ : ∃ p, p = addV y m d k := ⟨_, rfl⟩
      rw [← hp] at HS HI
      clear hp h hb hd hk
      obtain ⟨a, b⟩ := p
      have HS := Lib.hid (show ∀ w, Calls Tryd.prog 28 #[.int .i64 n, .int .i64 k] w (Same2 a b w) from HS)
      have HI := Lib.hid (show ∀ w, MonthsAt w → Calls Tryd.prog 20 #[.int .i64 n, .int .i64 k] w (Ret2 a b w) from HI)
      go_enter Tryd.func7, Tryd.ntmps7
      go_wp2_with (first
        | (go_at_call 28; refine (HS.out _).mono ?_; rintro e w1 ⟨rfl, rfl⟩)
        | (go_at_call 20; refine (HI.out _ HM.out).mono ?_; rintro e w2 ⟨rfl, hb⟩))
      go_ret
      exact ⟨rfl, hb⟩
end Go.Proofs.YtjjkbbcpihaphaaDoor
