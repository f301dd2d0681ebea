/- The law of CardinalPlaces. -/
import Derived.Test.YthccbipjmheoaaaDoorCplS
import Derived.Test.YthccbipjmheoaaaDoorDgrA
namespace Go.Proofs.YthccbipjmheoaaaDoor
open Go.ChangeShapes Go.WideShapes Go.ChangeAt Go.RowKit Pm

set_option maxRecDepth 100000 in
set_option maxHeartbeats 4000000 in
theorem cardinalplaces_law (s : ByteArray) (x y z a : Int) (w : World) (hs : s.size ≤ maxLen) (hL : laidMetH Tryd.prog Rows.fnExactCardinalPlacesRow.laid w) :
    Calls Tryd.prog 4 #[.agg #[.string s, .int .i64 x, .int .i64 y, .int .i64 z], .int .i64 a] w fun e w' => e = .returned (.bool true) ∧ Below w.heap.size w w' := by
  have HS := Lib.hid (sines_of hL)
  clear hL
  have SZ := Lib.hid (fun w' => szdg_any s x y z 1048576 w' hs (by omega) (by omega))
  have T := Lib.hid (fun w' => todg_any s x y z w')
  have hl4 : (cplP (s, x, y, z) a).length ≤ 1048576 := by
    unfold cplP
    split
    · rw [fourP_len]; omega
    · simp
  have SP := fun w' => scardplaces_any s x y z a w' hs
  have IM := fun w' h => cardplaces_any s x y z a w' hs h
  unfold CplRet at SP IM
  generalize cplP (s, x, y, z) a = P at *
  generalize cplE (s, x, y, z) a = E at *
  replace SP := Lib.hid SP
  replace IM := Lib.hid IM
  by_cases h : (1048576 : Int) < (s.size : Int)
  · rw [if_pos h] at SZ
    clear h
    go_enter Tryd.func4, Tryd.ntmps4
    go_wp2_with (go_at_call 6; (refine (SZ.out _).mono ?_); rintro e w1 ⟨rfl, hb⟩; have AC := Lib.hid (Below.next (a := w) (by go_grown) hb); clear hb)
    go_ret
    exact ⟨rfl, AC.out⟩
  rw [if_neg h] at SZ
  obtain ⟨m, hm⟩ : ∃ m, m = (1048576 : Int) - (s.size : Int) := ⟨_, rfl⟩
  rw [← hm] at SZ
  have hn : ¬ m < 0 := by omega
  clear h hm
  go_enter Tryd.func4, Tryd.ntmps4
  go_wp2_with (go_at_call 6; (refine (SZ.out _).mono ?_); rintro e w1 ⟨rfl, hb⟩; refine Hid.out ?_)
  refine Lib.hid ?_
  have XA := Lib.hid (show w1.cell? ⟨w.heap.size, 0, none⟩ = some (.string s) ∧ w1.cell? ⟨w.heap.size, 1, none⟩ = some (.int .i64 x) ∧ w1.cell? ⟨w.heap.size, 2, none⟩ = some (.int .i64 y) ∧ w1.cell? ⟨w.heap.size, 3, none⟩ = some (.int .i64 z) from ⟨cell_below (by go_cell) hb, cell_below (by go_cell) hb, cell_below (by go_cell) hb, cell_below (by go_cell) hb⟩)
  have AC := Lib.hid (Below.next (a := w) (by go_grown) hb)
  clear hb SZ
  have XB := Lib.hid (fun w' (hb : Below w1.heap.size w1 w') => show w'.cell? ⟨w.heap.size, 0, none⟩ = some (.string s) ∧ w'.cell? ⟨w.heap.size, 1, none⟩ = some (.int .i64 x) ∧ w'.cell? ⟨w.heap.size, 2, none⟩ = some (.int .i64 y) ∧ w'.cell? ⟨w.heap.size, 3, none⟩ = some (.int .i64 z) from ⟨cell_below XA.out.1 hb, cell_below XA.out.2.1 hb, cell_below XA.out.2.2.1 hb, cell_below XA.out.2.2.2 hb⟩)
  obtain ⟨x0, x1, x2, x3⟩ := XA.out
  go_wp2_with (go_at_call 8; (with_reducible refine (T.out _).mono ?_); rintro e w2 ⟨rfl, hb⟩; refine Hid.out ?_)
  refine Lib.hid ?_
  have BC := Lib.hid hb
  clear hb x0 x1 x2 x3 hn
  go_wp2_with (go_at_call 11; (with_reducible refine (SP.out _).mono ?_); rintro e w3 ⟨va, rfl, ho, hb⟩; refine Hid.out ?_)
  refine Lib.hid ?_
  have O1 := Lib.hid (ho.pts hl4)
  obtain ⟨aa, ca, rfl⟩ := ho.form
  have BC := Lib.hid (Below.next BC.out hb)
  clear ho hb
  obtain ⟨x0, x1, x2, x3⟩ := XB.out _ BC.out
  go_wp2_with (go_at_call 8; (with_reducible refine (T.out _).mono ?_); rintro e w4 ⟨rfl, hb⟩; refine Hid.out ?_)
  refine Lib.hid ?_
  have h43 : w3.heap.size ≤ w4.heap.size := hb.size
  have BD := Lib.hid hb
  clear hb x0 x1 x2 x3
  go_wp2_with (go_at_call 12; (with_reducible refine (IM.out _ (SinesAt.below HS.out (Below.next AC.out (Below.next BC.out BD.out)))).mono ?_); rintro e w5 ⟨vg, rfl, ho, hb⟩; refine Hid.out ?_)
  refine Lib.hid ?_
  have O2 := Lib.hid (OwnPt.mono ho h43)
  obtain ⟨ga, gc, rfl⟩ := ho.form
  have BD := Lib.hid (Below.next BD.out hb)
  clear ho hb h43
  go_wp2_with (go_at_call 13; (with_reducible refine (eqpts_same _ _ _ _ P _ hl4 (O2.out.pts hl4).are (O1.out.below BD.out).are).mono ?_); rintro e w6 ⟨rfl, hb⟩; refine Hid.out ?_)
  refine Lib.hid ?_
  have O2 := Lib.hid (O2.out.below hb)
  have BD := Lib.hid (Below.next BD.out hb)
  clear hb
  have hpos : ¬ (1 + 2 * (P.length : Int)) < 0 := by omega
  go_wp2_with (go_at_call 14; (with_reducible refine (markpts_any _ P _ _ hl4 O2.out).mono ?_); rintro e w7 ⟨rfl, ho, hb, _⟩; refine Hid.out ?_)
  refine Lib.hid ?_
  have O4 := Lib.hid ho
  have BD := Lib.hid (BD.out.trans hb)
  clear ho hb O2
  go_wp2_with (go_at_call 15; (with_reducible refine (heldpts_any _ P.length _ _ hl4 (O4.out)).mono ?_); rintro e w8 ⟨rfl, hb⟩; refine Hid.out ?_)
  refine Lib.hid ?_
  have O4 := Lib.hid (O4.out.below hb)
  have BD := Lib.hid (Below.next BD.out hb)
  clear hb
  obtain ⟨x0, x1, x2, x3⟩ := XB.out _ (Below.next BC.out BD.out)
  go_wp2_with (go_at_call 8; (with_reducible refine (T.out _).mono ?_); rintro e w9 ⟨rfl, hb⟩; refine Hid.out ?_)
  refine Lib.hid ?_
  have O4 := Lib.hid (O4.out.below hb)
  have BD := Lib.hid (Below.next BD.out hb)
  clear hb x0 x1 x2 x3
  go_wp2_with (go_at_call 12; (with_reducible refine (IM.out _ (SinesAt.below HS.out (Below.next AC.out (Below.next BC.out BD.out)))).mono ?_); rintro e w10 ⟨vh, rfl, ho, hb⟩; refine Hid.out ?_)
  refine Lib.hid ?_
  have J6 := Lib.hid (ho.pts hl4)
  obtain ⟨ha, hc, rfl⟩ := ho.form
  have O4 := Lib.hid (O4.out.below hb)
  have BD := Lib.hid (Below.next BD.out hb)
  clear ho hb
  go_wp2_with (go_at_call 13; (with_reducible refine (eqpts_same _ _ _ _ P _ hl4 J6.out.are (O1.out.below BD.out).are).mono ?_); rintro e w11 ⟨rfl, hb⟩; refine Hid.out ?_)
  refine Lib.hid ?_
  have O4 := Lib.hid (O4.out.below hb)
  have BD := Lib.hid (Below.next BD.out hb)
  clear hb J6
  go_wp2_with (go_at_call 15; (with_reducible refine (heldpts_any _ P.length _ _ hl4 (O4.out)).mono ?_); rintro e w12 ⟨rfl, hb⟩; refine Hid.out ?_)
  refine Lib.hid ?_
  have BD := Lib.hid (Below.next BD.out hb)
  clear hb
  go_wp2_with (fail)
  go_ret
  exact ⟨rfl, Below.next AC.out (Below.next BC.out BD.out)⟩
end Go.Proofs.YthccbipjmheoaaaDoor
