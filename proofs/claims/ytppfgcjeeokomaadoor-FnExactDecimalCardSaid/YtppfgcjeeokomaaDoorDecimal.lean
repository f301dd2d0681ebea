/- The law of the decimal form. -/
import Derived.Test.YtppfgcjeeokomaaDoorDec
import Derived.Test.YtppfgcjeeokomaaDoorLaid
namespace Go.Proofs.YtppfgcjeeokomaaDoor
open Go.ChangeShapes Go.WideShapes Go.ChangeAt Go.RowKit Pm

theorem decimal_law (n : Int) (wn : (Lit.int .i64 n).wf = true) (w : World) (hL : laidMetH Tryd.prog Rows.fnExactDecimalRow.laid w) :
    Calls Tryd.prog 5 #[.int .i64 n] w fun e w' => e = .returned (.bool true) ∧ Below w.heap.size w w' := by
  rw [MakeChecks.laidMetH_plain _ _ _ (by kernel_rfl)] at hL
  have hp := Lib.hid (pow_of hL)
  have hb := Lib.hid (bounds_i64 wn)
  clear hL wn
  obtain ⟨s, hs⟩ : ∃ s : ByteArray, s = ⟨(Lib.itoa n).toArray⟩ := ⟨_, rfl⟩
  have HS := Lib.hid (fun w => sdecimal_any n w hb.out.1 hb.out.2)
  have HI := Lib.hid (fun w => decimal_any n w hb.out.1 hb.out.2)
  rw [← hs] at HS HI
  clear hs
  go_enter Tryd.func5, Tryd.ntmps5
  go_wp2_with (first | (go_at_call 24; refine (HS.out _).mono ?_; rintro e w1 ⟨rfl, hb1⟩) | (go_at_call 20; refine (HI.out _ (PowAt.below hp.out hb1)).mono ?_; rintro e w2 ⟨rfl, hb2⟩))
  go_ret
  exact ⟨rfl, hb1.trans (hb2.mono hb1.size)⟩
end Go.Proofs.YtppfgcjeeokomaaDoor
