/- The law of MarkName. -/
import Derived.Test.YthheacebafleeaaDoorMrkS
import Derived.Test.YthheacebafleeaaDoorMrkR
namespace Go.Proofs.YthheacebafleeaaDoor
open Go.ChangeShapes Go.WideShapes Go.ChangeAt Go.RowKit Pm

set_option maxRecDepth 100000 in
set_option maxHeartbeats 1000000 in
theorem markname_law (k : Int) (w : World) (hL : laidMetH Tryd.prog Rows.fnExactMarkNameRow.laid w) :
    Calls Tryd.prog 3 #[.int .i64 k] w fun e w' => e = .returned (.bool true) ∧ Below w.heap.size w w' := by
  rw [MakeChecks.laidMetH_plain _ _ _ (by kernel_rfl)] at hL
  have HM := Lib.hid (marks_in hL (by kernel_rfl))
  clear hL
  have HX := Lib.hid (fun w => smarkname_any k w)
  have HI := Lib.hid (fun w hM => markname_any k w hM)
  obtain ⟨s, hs⟩ : ∃ x, x = mkF k 0 := ⟨_, rfl⟩
  rw [← hs] at HX HI
  clear hs
  have AC := Lib.hid (Below.refl w.heap.size w)
  go_enter Tryd.func3, Tryd.ntmps3
  go_wp2_with (go_at_call 11; refine (HX.out _).mono ?_; rintro e w1 ⟨rfl, hb⟩; refine Hid.out ?_)
  refine Lib.hid ?_
  replace AC := Lib.hid (Below.next AC.out hb)
  clear hb
  go_wp2_with (go_at_call 12; refine (HI.out _ (HM.out.below AC.out)).mono ?_; rintro e w2 ⟨rfl, hb⟩; refine Hid.out ?_)
  refine Lib.hid ?_
  replace AC := Lib.hid (Below.next AC.out hb)
  clear hb
  go_wp2
  go_ret
  exact ⟨rfl, AC.out⟩
end Go.Proofs.YthheacebafleeaaDoor
