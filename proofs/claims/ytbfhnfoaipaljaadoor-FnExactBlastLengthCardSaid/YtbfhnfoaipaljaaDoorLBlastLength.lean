/- The law of BlastLength. -/
import Derived.Test.YtbfhnfoaipaljaaDoorFogS
import Derived.Test.YtbfhnfoaipaljaaDoorFogW
import Derived.Test.YtbfhnfoaipaljaaDoorFogN
namespace Go.Proofs.YtbfhnfoaipaljaaDoor
open Go.ChangeShapes Go.WideShapes Go.ChangeAt Go.RowKit Pm

set_option maxRecDepth 100000 in
theorem blastlength_law (k : Int) (w : World) (hL : laidMetH Tryd.prog Rows.fnExactBlastLengthRow.laid w) :
    Calls Tryd.prog 5 #[.int .i64 k] w fun e w' => e = .returned (.bool true) ∧ Below w.heap.size w w' := by
  rw [MakeChecks.laidMetH_plain _ _ _ (by kernel_rfl)] at hL
  have HF := Lib.hid (fogs_in hL (by kernel_rfl))
  clear hL
  have HS := Lib.hid (fun w => sblastlen_any k w)
  have HI := Lib.hid (fun w hF => blastlen_any k w hF)
  obtain ⟨s, hs⟩ : ∃ x, x = fogLen k := ⟨_, rfl⟩
  rw [← hs] at HS HI
  clear hs
  obtain ⟨c, hc⟩ : ∃ x, x = (if s = 0 then (2 : Int) else 0) := ⟨_, rfl⟩
  rw [← hc] at HS HI
  clear hc
  have AC := Lib.hid (Below.refl w.heap.size w)
  go_enter Tryd.func5, Tryd.ntmps5
  go_wp2_with (go_at_call 20; refine (HS.out _).mono ?_; rintro e w1 ⟨rfl, hb⟩; refine Hid.out ?_)
  refine Lib.hid ?_
  replace AC := Lib.hid (Below.next AC.out hb)
  clear hb
  go_wp2_with (go_at_call 21; refine (HI.out _ (HF.out.below AC.out)).mono ?_; rintro e w2 ⟨rfl, hb⟩; refine Hid.out ?_)
  refine Lib.hid ?_
  replace AC := Lib.hid (Below.next AC.out hb)
  clear hb
  go_wp2
  go_ret
  exact ⟨rfl, AC.out⟩
end Go.Proofs.YtbfhnfoaipaljaaDoor
