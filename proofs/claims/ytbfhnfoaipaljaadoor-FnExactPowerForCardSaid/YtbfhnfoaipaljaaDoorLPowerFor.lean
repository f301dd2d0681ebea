/- The law of PowerFor. -/
import Derived.Test.YtbfhnfoaipaljaaDoorPowS
namespace Go.Proofs.YtbfhnfoaipaljaaDoor
open Go.ChangeShapes Go.WideShapes Go.ChangeAt Go.RowKit Pm

set_option maxRecDepth 100000 in
theorem powerfor_law (d : Int) (v : Int) (w : World) (hL : laidMetH Tryd.prog Rows.fnExactPowerForRow.laid w) :
    Calls Tryd.prog 12 #[.int .i64 d, .int .i64 v] w fun e w' => e = .returned (.bool true) ∧ Below w.heap.size w w' := by
  rw [MakeChecks.laidMetH_plain _ _ _ (by kernel_rfl)] at hL
  have HN := Lib.hid (snds_in hL (by kernel_rfl))
  clear hL
  obtain ⟨a, c, h⟩ := powIs_ex d v
  have HS := Lib.hid (fun w => spowerfor_any d v a c w h)
  have HI := Lib.hid (fun w hS => powerfor_any d v a c w hS h)
  have AC := Lib.hid (Below.refl w.heap.size w)
  go_enter Tryd.func12, Tryd.ntmps12
  go_wp2_with (go_at_call 38; refine (HS.out _).mono ?_; rintro e w1 ⟨rfl, hb⟩; refine Hid.out ?_)
  refine Lib.hid ?_
  replace AC := Lib.hid (Below.next AC.out hb)
  clear hb
  go_wp2_with (go_at_call 39; refine (HI.out _ (HN.out.below AC.out)).mono ?_; rintro e w2 ⟨rfl, hb⟩; refine Hid.out ?_)
  refine Lib.hid ?_
  replace AC := Lib.hid (Below.next AC.out hb)
  clear hb
  go_wp2
  go_ret
  exact ⟨rfl, AC.out⟩
end Go.Proofs.YtbfhnfoaipaljaaDoor
