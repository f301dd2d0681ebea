/- Is a mark valid? The program's. -/
import Derived.Test.YthheacebafleeaaDoorMrkV0
import Derived.Test.YthheacebafleeaaDoorMrkV1
namespace Go.Proofs.YthheacebafleeaaDoor
open Go.ChangeShapes Go.WideShapes Go.ChangeAt Go.RowKit Pm

def mkV (k : Int) (c s t : ByteArray) : Value := .agg #[.int .i64 k, .string c, .string s, .string t]
theorem fits_one (p q : ByteArray) (w' : World) (n : Nat) (hn : w'.heap.size = n) : Calls Tryd.prog 45 #[.string p, .slice (some ⟨n, 0, none⟩) 1 1] (w'.alloc (.cells #[.string q] 9)) fun e w'' => e = .returned (.bool (fitB p [q])) ∧ w'.alloc (.cells #[.string q] 9) = w'' := by
  subst hn
  refine fits_any p _ 1 [q] 1 _ rfl (by simp) ?_
  intro j hj
  simp only [List.length_singleton] at hj
  obtain rfl : j = 0 := by omega
  simp
set_option maxRecDepth 100000 in
set_option maxHeartbeats 1000000 in
theorem validmark_any (k : Int) (c s t : ByteArray) (w : World) (hM : MarksAt w) (hS : SpaceAt w) :
    Calls Tryd.prog 21 #[mkV k c s t] w fun e w' => e = .returned (.bool (mkOk k c s t)) ∧ Below w.heap.size w w' := by
  have HR := fun w' (hb : Below w.heap.size w w') => markrow_any k w' (hM.below hb)
  have HN := fun w' (hb : Below w.heap.size w w') => shapenames_any k w' (hS.below hb)
  have hEq := eq_zero k c s t
  have HCT := fun n w' (h : StrsAt w' n (mkShapes k)) => contains_any s n (mkShapes k).length (mkShapes k) (mkShapes k).length w' rfl (shapes_len k) h
  have HFT := fun w' n h => fits_one t (mkF k 3) w' n h
  unfold mkV mkOk mkL
  clear hM hS
  cases hz : mkZ k c s t
  case true =>
    rw [hz] at hEq
    clear HR HN HCT HFT hz
    go_enter Tryd.func21, Tryd.ntmps21
    go_wp2_with (fail)
    go_ret
    exact ⟨rfl, by go_grown⟩
  case false =>
    rw [hz] at hEq
    unfold rowV at *
    cases hc : (c.toList == (mkF k 1).toList)
    · clear HN HCT HFT hz
      generalize mkF k 0 = s0 at *
      generalize mkF k 1 = s1 at *
      generalize mkF k 2 = s2 at *
      generalize mkF k 3 = s3 at *
      generalize mkF k 4 = s4 at *
      generalize mkF k 5 = s5 at *
      generalize mkF k 6 = s6 at *
      replace HR := Lib.hid HR
      go_enter Tryd.func21, Tryd.ntmps21
      go_wp2_with (go_at_call 35; refine (HR.out _ (by go_grown)).mono ?_; rintro e w1 ⟨rfl, hb⟩; refine Hid.out ?_)
      refine Lib.hid ?_
      have c0 : w1.cell? ⟨w.heap.size, 0, none⟩ = some (.int .i64 k) := cell_below (by simp) hb
      have c1 : w1.cell? ⟨w.heap.size, 1, none⟩ = some (.string c) := cell_below (by simp) hb
      have c2 : w1.cell? ⟨w.heap.size, 2, none⟩ = some (.string s) := cell_below (by simp) hb
      have c3 : w1.cell? ⟨w.heap.size, 3, none⟩ = some (.string t) := cell_below (by simp) hb
      have hsz : w.heap.size < w1.heap.size := by have := hb.size; simp at this; omega
      have HB1 := Lib.hid (Below.next (a := w) (by go_grown) hb)
      clear hb hEq HR
      go_wp2_with (fail)
      go_quiet (fail)
      go_wp2_with (fail)
      go_ret
      exact ⟨rfl, Below.next (Below.alloc HB1.out (by have := HB1.out.size; omega) _) (fall_drew _ _)⟩
    · cases hh : hasB (mkShapes k) s
      · rw [hh] at HCT
        exact valid_false k c s t _ _ _ _ _ _ _ _ _ w HR HN hEq HCT hc
      · rw [hh] at HCT
        exact valid_true k c s t _ _ _ _ _ _ _ _ _ _ w HR HN hEq HCT HFT hc
end Go.Proofs.YthheacebafleeaaDoor
