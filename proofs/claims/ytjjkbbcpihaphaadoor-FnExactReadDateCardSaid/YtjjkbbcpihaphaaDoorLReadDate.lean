/- The law of ReadDate. -/
import Derived.Test.YtjjkbbcpihaphaaDoorRdq
namespace Go.Proofs.YtjjkbbcpihaphaaDoor
open Go.ChangeShapes Go.WideShapes Go.ChangeAt Go.RowKit Pm

theorem readdate_law (s : ByteArray) (w0 : s.size ≤ maxLen) (w : World) (hL : laidMetH Tryd.prog Rows.fnExactReadDateRow.laid w) (hsh : w.ShapedOpen Tryd.prog) :
    Calls Tryd.prog 9 #[.string s] w fun e w' => e = .returned (.bool true) ∧ Below w.heap.size w w' := by
  rw [MakeChecks.laidMetH_plain _ _ _ (by kernel_rfl)] at hL
  have HP := Lib.hid (pow_of hL)
  have HE := Lib.hid (show ErrsAt w from ⟨range_of hL.tail.tail.tail.tail, syn_of hL.tail.tail.tail.tail.tail⟩)
  have HM := Lib.hid (months_of hL.tail.tail.tail.tail.tail.tail)
  have HN := Lib.hid (len7_of hsh)
  clear hL hsh
  unfold maxLen at w0
  by_cases hl : s.size ≤ 1048576
  · obtain ⟨v, hv, HS⟩ := sread_ex s
    obtain ⟨u, hu, HI⟩ := readdate_ex s hl
    obtain rfl := hu.one hv
    have HS := fun w => sreaddate_any s u w HS
    obtain ⟨a, b⟩ := u
    have HS := Lib.hid (show ∀ w, Calls Tryd.prog 30 #[.string s] w (SameIB a b w) from HS)
    have HI := Lib.hid (show ∀ w, LenAt7 w → PowAt w → ErrsAt w → MonthsAt w → Calls Tryd.prog 15 #[.string s] w (RetIBr a b w) from HI)
    have hl2 : ¬ (1048576 : Int) < (s.size : Int) := by omega
    clear w0 hl hv hu
    cases b
    all_goals
      go_enter Tryd.func9, Tryd.ntmps9
      go_wp2_with (first
        | (go_at_call 30; refine (HS.out _).mono ?_; rintro e w1 ⟨rfl, rfl⟩)
        | (go_at_call 15; refine (HI.out _ HN.out HP.out HE.out HM.out).mono ?_; rintro e w2 ⟨rfl, hb⟩))
      go_ret
      exact ⟨rfl, hb⟩
  · have hl2 : (1048576 : Int) < (s.size : Int) := by omega
    clear hl
    go_enter Tryd.func9, Tryd.ntmps9
    go_wp2
    go_ret
    exact ⟨rfl, Below.refl _ _⟩
end Go.Proofs.YtjjkbbcpihaphaaDoor
