/- Texts of marks: the program's. -/
import Derived.Test.YthheacebafleeaaDoorMrkW
import Derived.Test.YthheacebafleeaaDoorMrkV
namespace Go.Proofs.YthheacebafleeaaDoor
open Go.ChangeShapes Go.WideShapes Go.ChangeAt Go.RowKit Pm

theorem tretS {a b : ByteArray} (h : a = b) : Ending.returned (.string a) = .returned (.string b) := by rw [h]
set_option maxRecDepth 100000 in
set_option maxHeartbeats 4000000 in
theorem marktext_any (k : Int) (c s t : ByteArray) (w : World) (hM : MarksAt w) (hS : SpaceAt w) :
    Calls Tryd.prog 30 #[.agg #[.int .i64 k, .string c, .string s, .string t]] w fun e w' => e = .returned (.string (markText k c s t)) ∧ Below w.heap.size w w' := by
  have HV := fun w' (hb : Below w.heap.size w w') => validmark_any k c s t w' (hM.below hb) (hS.below hb)
  have HN := fun w' (hb : Below w.heap.size w w') => markname_any k w' (hM.below hb)
  unfold mkV at HV
  unfold markText
  cases hok : mkOk k c s t
  · rw [hok] at HV
    replace HV := Lib.hid HV
    clear hM hS HN hok
    simp only [Bool.false_eq_true, if_false]
    go_enter Tryd.func30, Tryd.ntmps30
    go_wp2_with (go_at_call 21; (refine (HV.out _ (by go_grown)).mono ?_); rintro e w1 ⟨rfl, hb⟩; have AC := Lib.hid (Below.next (a := w) (by go_grown) hb); clear hb)
    go_ret
    exact ⟨rfl, AC.out⟩
  · rw [hok] at HV
    replace HV := Lib.hid HV
    simp only [if_true]
    by_cases hk : k = 0
    · subst hk
      replace HN := Lib.hid HN
      have e0 : mkT 0 c s t = mkF 0 0 := by unfold mkT; rw [if_pos rfl]
      rw [e0]
      generalize mkF 0 0 = nm at *
      clear hM hS hok e0
      go_enter Tryd.func30, Tryd.ntmps30
      go_wp2_with (go_at_call 21; (refine (HV.out _ (by go_grown)).mono ?_); rintro e w1 ⟨rfl, hb⟩; refine Hid.out ?_)
      refine Lib.hid ?_
      have c0 : w1.cell? ⟨w.heap.size, 0, none⟩ = some (.int .i64 0) := cell_below (by simp) hb
      have AC := Lib.hid (Below.next (a := w) (by go_grown) hb)
      clear hb
      go_wp2_with (go_at_call 12; (refine (HN.out _ AC.out).mono ?_); rintro e w2 ⟨rfl, hb⟩; have AC2 := Lib.hid (Below.next AC.out hb); clear hb)
      go_ret
      exact ⟨rfl, AC2.out⟩
    · obtain ⟨_, zc, zs, zt⟩ := ok_look hok hk
      have hk0 : (k == 0) = false := beq_eq_false_iff_ne.2 hk
      have zn := mkF_size k 0
      have e0 : mkT k c s t = fourT (mkF k 0) c s (topT t) := by unfold mkT; rw [if_neg hk]
      have ztop := topT_size zt
      rw [e0]
      replace HN := Lib.hid HN
      generalize mkF k 0 = nm at *
      have HF := Lib.hid (join_four nm c s (topT t))
      have HLN := Lib.hid (join_four_len nm c s (topT t) zn zc zs ztop)
      have htop : ((t.toList == []) = true → topT t = ⟨#[45]⟩) ∧ ((t.toList == []) = false → topT t = t) := ⟨fun h => by unfold topT; rw [if_pos h], fun h => by unfold topT; rw [if_neg (by rw [h]; decide)]⟩
      obtain ⟨tp, htp⟩ : ∃ tp, tp = topT t := ⟨_, rfl⟩
      rw [← htp] at HF HLN htop ⊢
      have HJ := Lib.hid (fun (g : Nat) (w' : World) (hc : ∀ (j : Nat) x, [nm, c, s, tp][j]? = some x → w'.cell? ⟨g, 0 + j, none⟩ = some (.string x)) (hg : g < w'.heap.size) => Any.strings_Join Tryd.lays156 Tryd.Builder_Extra_156 g 0 4 [nm, c, s, tp] ⟨#[32]⟩ w' hc hg (by simp) (by simp) HLN.out)
      clear hM hS hok e0 hk zn zc zs zt ztop htp HLN
      cases ht : (t.toList == ([] : List UInt8))
      case' false =>
        have e := htop.2 ht
        subst tp
      case' true =>
        have e := htop.1 ht
        subst tp
      all_goals
        clear htop
        go_enter Tryd.func30, Tryd.ntmps30
        go_wp2_with (go_at_call 21; (refine (HV.out _ (by go_grown)).mono ?_); rintro e w1 ⟨rfl, hb⟩; refine Hid.out ?_)
        refine Lib.hid ?_
        have c0 : w1.cell? ⟨w.heap.size, 0, none⟩ = some (.int .i64 k) := cell_below (by simp) hb
        have c1 : w1.cell? ⟨w.heap.size, 1, none⟩ = some (.string c) := cell_below (by simp) hb
        have c2 : w1.cell? ⟨w.heap.size, 2, none⟩ = some (.string s) := cell_below (by simp) hb
        have c3 : w1.cell? ⟨w.heap.size, 3, none⟩ = some (.string t) := cell_below (by simp) hb
        have AC := Lib.hid (Below.next (a := w) (by go_grown) hb)
        have hz1 : w.heap.size < w1.heap.size := by have h := hb.size; simp at h; omega
        clear hb
        go_wp2_with (fail)
        go_region_with (first
          | (go_at_call 12; (with_reducible refine (HN.out _ (Below.next AC.out (by go_grown))).mono ?_); rintro e w2 ⟨rfl, hb⟩; have d0 := cell_below (a := ⟨w.heap.size, 0, none⟩) (v := .int .i64 k) (by first | assumption | go_cell) hb; have d1 := cell_below (a := ⟨w.heap.size, 1, none⟩) (v := .string c) (by first | assumption | go_cell) hb; have d2 := cell_below (a := ⟨w.heap.size, 2, none⟩) (v := .string s) (by first | assumption | go_cell) hb; have d3 := cell_below (a := ⟨w.heap.size, 3, none⟩) (v := .string t) (by first | assumption | go_cell) hb; have AC2 := Lib.hid (Below.next AC.out (Below.next (a := w1) (by go_grown) hb)); have hz2 : w.heap.size < w2.heap.size := (by have h := hb.size; simp at h; omega); clear hb)
          | (go_at_call 50; (refine (HJ.out _ _ ?_ ?_).mono ?_); (· intro j x hx; have hj : j = 0 ∨ j = 1 ∨ j = 2 ∨ j = 3 := (by have := (List.getElem?_eq_some_iff.1 hx).1; simp at this; omega); rcases hj with rfl | rfl | rfl | rfl <;> simp at hx <;> subst hx <;> simp); (· simp); rintro e w3 ⟨rfl, hb⟩; have AC3 := Lib.hid (Below.next (Below.next AC2.out (by go_grown)) hb); clear hb))
        all_goals
          go_wp2_with (fail)
          go_ret
          exact ⟨tretS HF.out, AC3.out⟩
end Go.Proofs.YthheacebafleeaaDoor
