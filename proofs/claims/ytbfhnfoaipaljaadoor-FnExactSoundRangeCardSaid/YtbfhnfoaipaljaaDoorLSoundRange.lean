/- The law of SoundRange. -/
import Derived.Test.YtbfhnfoaipaljaaDoorSonS
namespace Go.Proofs.YtbfhnfoaipaljaaDoor
open Go.ChangeShapes Go.WideShapes Go.ChangeAt Go.RowKit Pm

set_option maxRecDepth 100000 in
theorem soundrange_law (q : Int) (v : Int) (w : World) (hL : laidMetH Tryd.prog Rows.fnExactSoundRangeRow.laid w) :
    Calls Tryd.prog 10 #[.int .i64 q, .int .i64 v] w fun e w' => e = .returned (.bool true) ∧ Below w.heap.size w w' := by
  rw [MakeChecks.laidMetH_plain _ _ _ (by kernel_rfl)] at hL
  have HN := Lib.hid (snds_in hL (by kernel_rfl))
  clear hL
  have HS := Lib.hid (fun w => ssoundrange_any q v w)
  have HI := Lib.hid (fun w hS => soundrange_any q v w hS)
  obtain ⟨a, ha⟩ : ∃ x, x = (if sndOk q v then sndV q v else 0) := ⟨_, rfl⟩
  rw [← ha] at HS HI
  clear ha
  obtain ⟨c, hc⟩ : ∃ x, x = (if sndOk q v then (0 : Int) else 2) := ⟨_, rfl⟩
  rw [← hc] at HS HI
  clear hc
  have AC := Lib.hid (Below.refl w.heap.size w)
  go_enter Tryd.func10, Tryd.ntmps10
  go_wp2_with (go_at_call 33; refine (HS.out _).mono ?_; rintro e w1 ⟨rfl, hb⟩; refine Hid.out ?_)
  refine Lib.hid ?_
  replace AC := Lib.hid (Below.next AC.out hb)
  clear hb
  go_wp2_with (go_at_call 34; refine (HI.out _ (HN.out.below AC.out)).mono ?_; rintro e w2 ⟨rfl, hb⟩; refine Hid.out ?_)
  refine Lib.hid ?_
  replace AC := Lib.hid (Below.next AC.out hb)
  clear hb
  go_wp2
  go_ret
  exact ⟨rfl, AC.out⟩
end Go.Proofs.YtbfhnfoaipaljaaDoor
