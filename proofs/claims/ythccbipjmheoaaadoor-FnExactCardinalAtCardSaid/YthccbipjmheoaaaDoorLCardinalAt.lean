/- The law of CardinalAt. -/
import Derived.Test.YthccbipjmheoaaaDoorCrd
import Derived.Test.YthccbipjmheoaaaDoorDgrA
import Derived.Deep.RegionHeld3
namespace Go.Proofs.YthccbipjmheoaaaDoor
open Go.ChangeShapes Go.WideShapes Go.ChangeAt Go.RowKit Pm

theorem keepB6c {w0 w : World} {a0 a1 a2 a3 a4 a5 : Addr} {v0 v1 v2 v3 v4 v5 : Value} (h : w.cell? a0 = some v0 ∧ w.cell? a1 = some v1 ∧ w.cell? a2 = some v2 ∧ w.cell? a3 = some v3 ∧ w.cell? a4 = some v4 ∧ w.cell? a5 = some v5 ∧ Below w0.heap.size w0 w) : Below w0.heap.size w0 w := h.2.2.2.2.2.2
set_option maxRecDepth 100000 in
set_option maxHeartbeats 2000000 in
theorem cardinalat_law (s : ByteArray) (x y z px py : Int) (w : World) (hs : s.size ≤ maxLen) (hL : laidMetH Tryd.prog Rows.fnExactCardinalAtRow.laid w) :
    Calls Tryd.prog 3 #[.agg #[.string s, .int .i64 x, .int .i64 y, .int .i64 z], .agg #[.int .i64 px, .int .i64 py]] w fun e w' => e = .returned (.bool true) ∧ Below w.heap.size w w' := by
  have HS := Lib.hid (sines_of hL)
  clear hL
  have SZ := Lib.hid (fun w' => szdg_any s x y z 1048576 w' hs (by omega) (by omega))
  have T := Lib.hid (fun w' => todg_any s x y z w')
  have SP := Lib.hid (fun w' => scardinalat_any s x y z px py w' hs)
  have IM := Lib.hid (fun w' h => cardinalat_any s x y z px py w' hs h)
  by_cases h : (1048576 : Int) < (s.size : Int)
  · rw [if_pos h] at SZ
    clear h
    go_enter Tryd.func3, Tryd.ntmps3
    go_wp2_with (go_at_call 6; (refine (SZ.out _).mono ?_); rintro e w1 ⟨rfl, hb⟩; have AC := Lib.hid (Below.next (a := w) (by go_grown) hb); clear hb)
    go_ret
    exact ⟨rfl, AC.out⟩
  rw [if_neg h] at SZ
  obtain ⟨m, hm⟩ : ∃ m, m = (1048576 : Int) - (s.size : Int) := ⟨_, rfl⟩
  rw [← hm] at SZ
  have hn : ¬ m < 0 := by omega
  clear h hm
  go_enter Tryd.func3, Tryd.ntmps3
  go_wp2_with (go_at_call 6; (refine (SZ.out _).mono ?_); rintro e w1 ⟨rfl, hb⟩; refine Hid.out ?_)
  refine Lib.hid ?_
  have H0 := Lib.hid (show w1.cell? ⟨w.heap.size, 0, none⟩ = some (.string s) ∧ w1.cell? ⟨w.heap.size, 1, none⟩ = some (.int .i64 x) ∧ w1.cell? ⟨w.heap.size, 2, none⟩ = some (.int .i64 y) ∧ w1.cell? ⟨w.heap.size, 3, none⟩ = some (.int .i64 z) ∧ w1.cell? ⟨w.heap.size + 1, 0, none⟩ = some (.int .i64 px) ∧ w1.cell? ⟨w.heap.size + 1, 1, none⟩ = some (.int .i64 py) ∧ Below w.heap.size w w1 from ⟨cell_below (by go_cell) hb, cell_below (by go_cell) hb, cell_below (by go_cell) hb, cell_below (by go_cell) hb, cell_below (by go_cell) hb, cell_below (by go_cell) hb, Below.next (by go_grown) hb⟩)
  clear hb SZ
  go_wp2_with (fail)
  go_region_held3 (fun w' => w'.cell? ⟨w.heap.size, 0, none⟩ = some (.string s) ∧ w'.cell? ⟨w.heap.size, 1, none⟩ = some (.int .i64 x) ∧ w'.cell? ⟨w.heap.size, 2, none⟩ = some (.int .i64 y) ∧ w'.cell? ⟨w.heap.size, 3, none⟩ = some (.int .i64 z) ∧ w'.cell? ⟨w.heap.size + 1, 0, none⟩ = some (.int .i64 px) ∧ w'.cell? ⟨w.heap.size + 1, 1, none⟩ = some (.int .i64 py) ∧ Below w.heap.size w w')
    (first | (with_reducible assumption) | (with_reducible exact keep6 (by assumption) (by assumption)) | (with_reducible exact drew6 H0.out) | (with_reducible exact drew6 (by assumption)))
    (first
      | (go_at_call 8; (with_reducible refine (T.out _).mono ?_); rintro e w2 ⟨rfl, hb⟩)
      | (go_at_call 9; refine (topoint_any _ _ _).mono ?_; rintro e w3 ⟨rfl, hb⟩)
      | (go_at_call 7; (with_reducible refine (SP.out _).mono ?_); rintro e w4 ⟨K, E, hr, rfl, hb⟩))
  all_goals
    have HR := Lib.hid hr
    clear hr
    rename_i hH
    have H1 := Lib.hid hH
    clear hH
    go_wp2_with (fail)
    go_region_held3 (fun w' => w'.cell? ⟨w.heap.size, 0, none⟩ = some (.string s) ∧ w'.cell? ⟨w.heap.size, 1, none⟩ = some (.int .i64 x) ∧ w'.cell? ⟨w.heap.size, 2, none⟩ = some (.int .i64 y) ∧ w'.cell? ⟨w.heap.size, 3, none⟩ = some (.int .i64 z) ∧ w'.cell? ⟨w.heap.size + 1, 0, none⟩ = some (.int .i64 px) ∧ w'.cell? ⟨w.heap.size + 1, 1, none⟩ = some (.int .i64 py) ∧ Below w.heap.size w w')
      (first | (with_reducible assumption) | (with_reducible exact keep6 (by assumption) (by assumption)) | (with_reducible exact drew6 H1.out) | (with_reducible exact drew6 (by assumption)))
      (first
        | (go_at_call 8; (with_reducible refine (T.out _).mono ?_); rintro e w5 ⟨rfl, hb⟩)
        | (go_at_call 9; refine (topoint_any _ _ _).mono ?_; rintro e w6 ⟨rfl, hb⟩)
        | (go_at_call 10; (with_reducible refine (IM.out _ (SinesAt.below HS.out (keepB6c (by assumption)))).mono ?_); rintro e w7 ⟨K', E', hr, rfl, hb⟩; obtain ⟨rfl, rfl⟩ := hr.one HR.out))
    all_goals
      rename_i hH
      have HB2 := Lib.hid (keepB6c hH)
      clear hH
      go_wp2
      go_ret
      exact ⟨rfl, HB2.out⟩
end Go.Proofs.YthccbipjmheoaaaDoor
