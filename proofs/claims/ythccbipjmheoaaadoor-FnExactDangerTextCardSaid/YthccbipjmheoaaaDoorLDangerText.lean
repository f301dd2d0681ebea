/- The law of DangerText. -/
import Derived.Test.YthccbipjmheoaaaDoorDgt
import Derived.Test.YthccbipjmheoaaaDoorDgrA
namespace Go.Proofs.YthccbipjmheoaaaDoor
open Go.ChangeShapes Go.WideShapes Go.ChangeAt Go.RowKit Pm

set_option maxRecDepth 100000 in
set_option maxHeartbeats 1000000 in
theorem dangertext_law (s : ByteArray) (x y z : Int) (w : World) (hs : s.size ≤ maxLen) (hL : laidMetH Tryd.prog Rows.fnExactDangerTextRow.laid w) :
    Calls Tryd.prog 5 #[.agg #[.string s, .int .i64 x, .int .i64 y, .int .i64 z]] w fun e w' => e = .returned (.bool true) ∧ Below w.heap.size w w' := by
  rw [MakeChecks.laidMetH_plain _ _ _ (by kernel_rfl)] at hL
  have HP := Lib.hid (pow_of hL)
  clear hL
  have SZ := Lib.hid (fun w' => szdg_any s x y z 1048576 w' hs (by omega) (by omega))
  have T := Lib.hid (fun w' => todg_any s x y z w')
  have SP := Lib.hid (fun w' => sdangertext_any s x y z w' hs)
  have IM := Lib.hid (fun w' h => dangertext_any s x y z w' hs h)
  generalize dgText (s, x, y, z) = V at *
  by_cases h : (1048576 : Int) < (s.size : Int)
  · rw [if_pos h] at SZ
    clear h
    go_enter Tryd.func5, Tryd.ntmps5
    go_wp2_with (go_at_call 6; (refine (SZ.out _).mono ?_); rintro e w1 ⟨rfl, hb⟩; have AC := Lib.hid (Below.next (a := w) (by go_grown) hb); clear hb)
    go_ret
    exact ⟨rfl, AC.out⟩
  · rw [if_neg h] at SZ
    obtain ⟨m, hm⟩ : ∃ m, m = (1048576 : Int) - (s.size : Int) := ⟨_, rfl⟩
    rw [← hm] at SZ
    have hn : ¬ m < 0 := by omega
    clear h hm
    go_enter Tryd.func5, Tryd.ntmps5
    go_wp2_with (first
      | (go_at_call 6; (refine (SZ.out _).mono ?_); rintro e w1 ⟨rfl, hb⟩; have x0 := cell_below (a := ⟨w.heap.size, 0, none⟩) (v := .string s) (by go_cell) hb; have x1 := cell_below (a := ⟨w.heap.size, 1, none⟩) (v := .int .i64 x) (by go_cell) hb; have x2 := cell_below (a := ⟨w.heap.size, 2, none⟩) (v := .int .i64 y) (by go_cell) hb; have x3 := cell_below (a := ⟨w.heap.size, 3, none⟩) (v := .int .i64 z) (by go_cell) hb; have AC := Lib.hid (Below.next (a := w) (by go_grown) hb); clear hb)
      | (go_at_call 8; (refine (T.out _).mono ?_); rintro e wn ⟨rfl, hb⟩; replace x0 := cell_below x0 hb; replace x1 := cell_below x1 hb; replace x2 := cell_below x2 hb; replace x3 := cell_below x3 hb; replace AC := Lib.hid (Below.next AC.out hb); clear hb)
      | (go_at_call 16; (refine (SP.out _).mono ?_); rintro e wn ⟨rfl, hb⟩; replace x0 := cell_below x0 hb; replace x1 := cell_below x1 hb; replace x2 := cell_below x2 hb; replace x3 := cell_below x3 hb; replace AC := Lib.hid (Below.next AC.out hb); clear hb)
      | (go_at_call 17; (refine (IM.out _ (HP.out.below AC.out)).mono ?_); rintro e wn ⟨rfl, hb⟩; replace x0 := cell_below x0 hb; replace x1 := cell_below x1 hb; replace x2 := cell_below x2 hb; replace x3 := cell_below x3 hb; replace AC := Lib.hid (Below.next AC.out hb); clear hb))
    go_ret
    exact ⟨rfl, AC.out⟩
end Go.Proofs.YthccbipjmheoaaaDoor
