/- The law of StandardMark. -/
import Derived.Test.YthheacebafleeaaDoorMrkC
import Derived.Test.YthheacebafleeaaDoorMrkA
namespace Go.Proofs.YthheacebafleeaaDoor
open Go.ChangeShapes Go.WideShapes Go.ChangeAt Go.RowKit Pm

set_option maxRecDepth 100000 in
set_option maxHeartbeats 1000000 in
theorem standardmark_law (k : Int) (w : World) (hL : laidMetH Tryd.prog Rows.fnExactStandardMarkRow.laid w) :
    Calls Tryd.prog 5 #[.int .i64 k] w fun e w' => e = .returned (.bool true) ∧ Below w.heap.size w w' := by
  rw [MakeChecks.laidMetH_plain _ _ _ (by kernel_rfl)] at hL
  have HM := Lib.hid (marks_in hL (by kernel_rfl))
  have HS := Lib.hid (space_in hL (by kernel_rfl))
  clear hL
  have HX := fun w => sstdmark_any k w
  have HI := fun w hM hS => stdmark_any k w hM hS
  obtain ⟨k', c', s', t', hv⟩ : ∃ (k' : Int) (c' s' t' : ByteArray), stdV k = .agg #[.int .i64 k', .string c', .string s', .string t'] := by
    unfold stdV
    cases inB 1 9 [k]
    · exact ⟨_, _, _, _, rfl⟩
    · exact ⟨_, _, _, _, rfl⟩
  rw [hv] at HX HI
  generalize (if inB 1 9 [k] = true then (0 : Int) else 2) = r at *
  replace HX := Lib.hid HX
  replace HI := Lib.hid HI
  have HE := Lib.hid (fun w => eqmark_same k' c' s' t' w)
  clear hv
  have AC := Lib.hid (Below.refl w.heap.size w)
  go_enter Tryd.func5, Tryd.ntmps5
  go_wp2_with (go_at_call 15; refine (HX.out _).mono ?_; rintro e w1 ⟨rfl, hb⟩; refine Hid.out ?_)
  refine Lib.hid ?_
  replace AC := Lib.hid ((Below.next AC.out hb).alloc (Below.next AC.out hb).size (.cells #[.int .i64 k', .string c', .string s', .string t'] 28))
  clear hb
  go_wp2_with (go_at_call 16; refine (HI.out _ (HM.out.below AC.out) (HS.out.below AC.out)).mono ?_; rintro e w2 ⟨rfl, hb⟩; refine Hid.out ?_)
  refine Lib.hid ?_
  have e0 : w2.cell? ⟨w1.heap.size, 0, none⟩ = some (.int .i64 k') := cell_below (by simp) hb
  have e1 : w2.cell? ⟨w1.heap.size, 1, none⟩ = some (.string c') := cell_below (by simp) hb
  have e2 : w2.cell? ⟨w1.heap.size, 2, none⟩ = some (.string s') := cell_below (by simp) hb
  have e3 : w2.cell? ⟨w1.heap.size, 3, none⟩ = some (.string t') := cell_below (by simp) hb
  have hz : w1.heap.size < w2.heap.size := by have h := hb.size; simp at h; omega
  replace AC := Lib.hid ((Below.next AC.out hb).alloc (Below.next AC.out hb).size (.cells #[.int .i64 k', .string c', .string s', .string t'] 28))
  clear hb
  go_wp2_with (go_at_call 17; refine (HE.out _).mono ?_; rintro e w3 ⟨rfl, hb⟩; refine Hid.out ?_)
  refine Lib.hid ?_
  replace AC := Lib.hid (Below.next AC.out hb)
  clear hb
  go_wp2
  go_ret
  exact ⟨rfl, AC.out⟩
end Go.Proofs.YthheacebafleeaaDoor
