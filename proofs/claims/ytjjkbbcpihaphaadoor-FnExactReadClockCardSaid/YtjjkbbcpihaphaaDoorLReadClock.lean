/- The law of ReadClock. -/
import Derived.Test.YtjjkbbcpihaphaaDoorRdq
namespace Go.Proofs.YtjjkbbcpihaphaaDoor
open Go.ChangeShapes Go.WideShapes Go.ChangeAt Go.RowKit Pm

theorem readclock_law (s : ByteArray) (w0 : s.size ≤ maxLen) (w : World) (hL : laidMetH Tryd.prog Rows.fnExactReadClockRow.laid w) (hsh : w.ShapedOpen Tryd.prog) :
    Calls Tryd.prog 11 #[.string s] w fun e w' => e = .returned (.bool true) ∧ Below w.heap.size w w' := by
  rw [MakeChecks.laidMetH_plain _ _ _ (by kernel_rfl)] at hL
  have HP := Lib.hid (pow_of hL)
  have HE := Lib.hid (show ErrsAt w from ⟨range_of hL.tail.tail.tail.tail, syn_of hL.tail.tail.tail.tail.tail⟩)
  have HN := Lib.hid (len7_of hsh)
  clear hL hsh
  unfold maxLen at w0
  by_cases hl : s.size ≤ 1048576
  · obtain ⟨v, hv, HS⟩ := sreadclock_ex s
    obtain ⟨u, hu, HI⟩ := readclock_ex s hl
    obtain rfl := hu.one hv
    obtain ⟨a, b⟩ := u
    have HS := Lib.hid (show ∀ w, Calls Tryd.prog 32 #[.string s] w (SameIB a b w) from HS)
    have HI := Lib.hid (show ∀ w, LenAt7 w → PowAt w → ErrsAt w → Calls Tryd.prog 21 #[.string s] w (RetIBr a b w) from HI)
    have hl2 : ¬ (1048576 : Int) < (s.size : Int) := by omega
    clear w0 hl hv hu
    cases b
    all_goals
      go_enter Tryd.func11, Tryd.ntmps11
      go_wp2_with (first
        | (go_at_call 32; refine (HS.out _).mono ?_; rintro e w1 ⟨rfl, rfl⟩)
        | (go_at_call 21; refine (HI.out _ HN.out HP.out HE.out).mono ?_; rintro e w2 ⟨rfl, hb⟩))
      go_ret
      exact ⟨rfl, hb⟩
  · have hl2 : (1048576 : Int) < (s.size : Int) := by omega
    clear hl
    go_enter Tryd.func11, Tryd.ntmps11
    go_wp2
    go_ret
    exact ⟨rfl, Below.refl _ _⟩
end Go.Proofs.YtjjkbbcpihaphaaDoor
