/- The law of MarkNamed. -/
import Derived.Test.YthheacebafleeaaDoorMrkO
import Derived.Test.YthheacebafleeaaDoorMrkA
namespace Go.Proofs.YthheacebafleeaaDoor
open Go.ChangeShapes Go.WideShapes Go.ChangeAt Go.RowKit Pm

set_option maxRecDepth 100000 in
theorem marknamed_law (s : ByteArray) (w0 : s.size ≤ maxLen) (w : World) (hL : laidMetH Tryd.prog Rows.fnExactMarkNamedRow.laid w) :
    Calls Tryd.prog 4 #[.string s] w fun e w' => e = .returned (.bool true) ∧ Below w.heap.size w w' := by
  rw [MakeChecks.laidMetH_plain _ _ _ (by kernel_rfl)] at hL
  have HM := Lib.hid (marks_in hL (by kernel_rfl))
  clear hL
  by_cases hl : s.size ≤ 1048576
  · obtain ⟨v, hv⟩ := named_ex s
    have HX := fun w => smarknamed_any s v w hv
    have HI := fun w hM => marknamed_any s v w hM w0 hv
    generalize nmA v = a at *
    generalize nmB v = b at *
    replace HX := Lib.hid HX
    replace HI := Lib.hid HI
    have hl1 : ¬ (1048576 : Int) < (s.size : Int) := by omega
    have hbb : (b != b) = false := by simp
    clear w0 hl hv
    go_enter Tryd.func4, Tryd.ntmps4
    go_wp2_with (go_at_call 13; (refine (HX.out _).mono ?_); rintro e w1 ⟨rfl, hb⟩; refine Hid.out ?_)
    refine Lib.hid ?_
    have AC := Lib.hid hb
    clear hb
    go_wp2_with (go_at_call 14; (refine (HI.out _ (HM.out.below AC.out)).mono ?_); rintro e w2 ⟨rfl, hb⟩; have AC2 := Lib.hid (Below.next AC.out hb); clear hb)
    go_ret
    exact ⟨rfl, AC2.out⟩
  · have hl2 : (1048576 : Int) < (s.size : Int) := by omega
    clear hl
    go_enter Tryd.func4, Tryd.ntmps4
    go_wp2
    go_ret
    exact ⟨rfl, Below.refl _ _⟩
end Go.Proofs.YthheacebafleeaaDoor
