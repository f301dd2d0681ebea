/- The law of ReadFog. -/
import Derived.Test.YtbfhnfoaipaljaaDoorRdgJ
import Derived.Test.YtbfhnfoaipaljaaDoorRdgS
import Derived.Test.YtbfhnfoaipaljaaDoorFogA
import Derived.Stop.LaidErr
namespace Go.Proofs.YtbfhnfoaipaljaaDoor
open Go.ChangeShapes Go.WideShapes Go.ChangeAt Go.RowKit Pm

theorem eqfog_same (k l p q : Int) (w : World) :
    Calls Tryd.prog 44 #[.agg #[.int .i64 k, .int .i64 l, .int .i64 p, .int .i64 q], .agg #[.int .i64 k, .int .i64 l, .int .i64 p, .int .i64 q]] w fun e w' => e = .returned (.bool true) ∧ Below w.heap.size w w' := by
  go_enter Tryd.func44, Tryd.ntmps44
  go_wp2
  go_ret
  exact ⟨rfl, by go_grown⟩
set_option maxRecDepth 100000 in
set_option maxHeartbeats 1000000 in
theorem readfog_law (s : ByteArray) (w0 : s.size ≤ maxLen) (w : World) (hL : laidMetH Tryd.prog Rows.fnExactReadFogRow.laid w) (hsh : w.ShapedOpen Tryd.prog) :
    Calls Tryd.prog 14 #[.string s] w fun e w' => e = .returned (.bool true) ∧ Below w.heap.size w w' := by
  rw [MakeChecks.laidMetH_plain _ _ _ (by kernel_rfl)] at hL
  have hF := fogs_in hL (by kernel_rfl)
  obtain ⟨ea, ep, eq, hE⟩ := errs_in hL (by kernel_rfl) (by kernel_rfl)
  have HB := Lib.hid (show RdBase ea ep eq w from ⟨hF, hE, pow_of hL, len_of hsh, len7_of hsh, range_of hL.tail.tail.tail.tail, syn_of hL.tail.tail.tail.tail.tail⟩)
  clear hL hsh hF hE
  unfold maxLen at w0
  by_cases hl : s.size ≤ 1048576
  · have HS := fun w => sreadfog_any s w hl
    have HI := fun w h => readfog_any s ea ep eq w hl h
    unfold RdRet at HS HI
    generalize rdF s = r at *
    obtain ⟨⟨k, l, p, q⟩, b⟩ := r
    replace HS := Lib.hid HS
    replace HI := Lib.hid HI
    have hl1 : ¬ (1048576 : Int) < (s.size : Int) := by omega
    have hbb : (b != b) = false := by simp
    clear w0 hl
    go_enter Tryd.func14, Tryd.ntmps14
    go_wp2_with (go_at_call 42; (refine (HS.out _).mono ?_); rintro e w1 ⟨rfl, hb⟩; refine Hid.out ?_)
    refine Lib.hid ?_
    have AC := Lib.hid hb
    clear hb
    go_wp2_with (go_at_call 43; (refine (HI.out _ (HB.out.below (AC.out.alloc AC.out.size _))).mono ?_); rintro e w2 ⟨rfl, hb⟩; refine Hid.out ?_)
    refine Lib.hid ?_
    have c0 := cell_below (a := ⟨w1.heap.size, 0, none⟩) (v := .int .i64 k) (by go_cell) hb
    have c1 := cell_below (a := ⟨w1.heap.size, 1, none⟩) (v := .int .i64 l) (by go_cell) hb
    have c2 := cell_below (a := ⟨w1.heap.size, 2, none⟩) (v := .int .i64 p) (by go_cell) hb
    have c3 := cell_below (a := ⟨w1.heap.size, 3, none⟩) (v := .int .i64 q) (by go_cell) hb
    have AC2 := Lib.hid (Below.next (AC.out.alloc AC.out.size _) hb)
    have hlt := Nat.lt_of_lt_of_le (show w1.heap.size < (w1.alloc _).heap.size by simp) hb.size
    clear hb
    have HQ := Lib.hid (fun w => eqfog_same k l p q w)
    go_wp2_with (go_at_call 44; (refine (HQ.out _).mono ?_); rintro e w3 ⟨rfl, hb⟩; have AC3 := Lib.hid (Below.next (AC2.out.alloc AC2.out.size _) hb); clear hb)
    go_ret
    exact ⟨rfl, AC3.out⟩
  · have hl2 : (1048576 : Int) < (s.size : Int) := by omega
    clear hl
    go_enter Tryd.func14, Tryd.ntmps14
    go_wp2
    go_ret
    exact ⟨rfl, Below.refl _ _⟩
end Go.Proofs.YtbfhnfoaipaljaaDoor
