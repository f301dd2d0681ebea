/- The law of DateOf. -/
import Derived.Test.YtjjkbbcpihaphaaDoorCalT
import Derived.Test.YtjjkbbcpihaphaaDoorCalK
namespace Go.Proofs.YtjjkbbcpihaphaaDoor
open Go.ChangeShapes Go.WideShapes Go.ChangeAt Go.RowKit Pm

theorem dateof_law (n : Int) (w : World) (hL : laidMetH Tryd.prog Rows.fnExactDateOfRow.laid w) :
    Calls Tryd.prog 4 #[.int .i64 n] w fun e w' => e = .returned (.bool true) ∧ Below w.heap.size w w' := by
  rw [MakeChecks.laidMetH_plain _ _ _ (by kernel_rfl)] at hL
  have HM := Lib.hid (months_of hL)
  clear hL
  cases h : inB 0 99999 [n]
  · have HS := Lib.hid (fun w => sdateof_no n w h)
    have HI := Lib.hid (fun w => dateof_no n w h)
    clear h
    go_enter Tryd.func4, Tryd.ntmps4
    go_wp2_with (first
      | (go_at_call 25; refine (HS.out _).mono ?_; rintro e w1 ⟨rfl, rfl⟩)
      | (go_at_call 13; refine (HI.out _).mono ?_; rintro e w2 ⟨rfl, hb⟩))
    go_ret
    exact ⟨rfl, hb⟩
  · have hb : 0 ≤ n ∧ n ≤ 99999 := by simpa [inB] using h
    obtain ⟨y, m, d, hd⟩ := date_ex hb.1
    have HS := Lib.hid (fun w => sdateof_yes n y m d w hd hb.2)
    have HI := Lib.hid (fun w hM => dateof_yes n y m d w hM hd hb.2)
    clear h hb hd
    go_enter Tryd.func4, Tryd.ntmps4
    go_wp2_with (first
      | (go_at_call 25; refine (HS.out _).mono ?_; rintro e w1 ⟨rfl, rfl⟩)
      | (go_at_call 13; refine (HI.out _ HM.out).mono ?_; rintro e w2 ⟨rfl, hb⟩))
    go_ret
    exact ⟨rfl, hb⟩
end Go.Proofs.YtjjkbbcpihaphaaDoor
