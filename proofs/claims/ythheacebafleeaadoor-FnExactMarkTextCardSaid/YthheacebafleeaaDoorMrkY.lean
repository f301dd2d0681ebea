/- Texts of marks: the model's. -/
import Derived.Test.YthheacebafleeaaDoorMrkW
import Derived.Test.YthheacebafleeaaDoorMrkK
import Derived.Deep.RegionHeld3
import Derived.Test.YthheacebafleeaaDoorMrkO
namespace Go.Proofs.YthheacebafleeaaDoor
open Go.ChangeShapes Go.WideShapes Go.ChangeAt Go.RowKit Pm

theorem sretS {a b : ByteArray} (h : a = b) : Ending.returned (.string a) = .returned (.string b) := by rw [h]
theorem names_at {P : Program} {args : Array Value} {f : FuncId} (r : Nat) (w : World)
    (h : Calls P f args w fun e w' => e = .returned (.slice (some ⟨w.heap.size, 0, none⟩) 10 10) ∧ (∀ r : Nat, r < 10 → w'.cell? ⟨w.heap.size, r, none⟩ = some (.string (mkF r 0))) ∧ Below w.heap.size w w') (hr : r < 10) :
    Calls P f args w fun e w' => ∃ g, e = .returned (.slice (some ⟨g, 0, none⟩) 10 10) ∧ w'.cell? ⟨g, r, none⟩ = some (.string (mkF r 0)) ∧ w.heap.size ≤ g ∧ Below w.heap.size w w' := by
  refine h.mono ?_
  rintro e w' ⟨he, hc, hb⟩
  exact ⟨_, he, hc r hr, Nat.le_refl _, hb⟩
set_option maxRecDepth 100000 in
set_option maxHeartbeats 4000000 in
theorem stextmark_any (B : Nat) (k : Int) (c s t : ByteArray) (w : World) (hok : mkOk k c s t = true) (h : MarkCells w B k c s t) :
    Calls Tryd.prog 49 #[.pointer (some ⟨B, 0, none⟩)] w fun e w' => e = .returned (.string (mkT k c s t)) ∧ Below w.heap.size w w' := by
  obtain ⟨c0, c1, c2, c3⟩ := h
  by_cases hk : k = 0
  · subst hk
    have e0 : mkT 0 c s t = ⟨#[110, 111, 110, 101]⟩ := by unfold mkT; rw [if_pos rfl]; rfl
    rw [e0]
    clear e0 hok
    go_enter Tryd.func49, Tryd.ntmps49
    go_wp2
    go_ret
    exact ⟨rfl, by go_grown⟩
  · obtain ⟨h1, zc, zs, zt⟩ := ok_look hok hk
    have hk9 := inb_yes h1
    obtain ⟨r, hr⟩ : ∃ r : Nat, k = (r : Int) := ⟨k.toNat, by omega⟩
    subst hr
    have hr9 : r < 10 := by omega
    have hr10 : (r : Int) < 10 := by omega
    have hr0 : ((r : Int) == 0) = false := beq_eq_false_iff_ne.2 hk
    have zn := mkF_size (r : Int) 0
    have e0 : mkT (r : Int) c s t = fourT (mkF (r : Int) 0) c s (topT t) := by unfold mkT; rw [if_neg hk]
    have ztop := topT_size zt
    rw [e0]
    have HN := Lib.hid (fun w' => names_at r w' (slnames_any w') hr9)
    generalize mkF (r : Int) 0 = nm at *
    have htop : ((t.toList == []) = true → topT t = ⟨#[45]⟩) ∧ ((t.toList == []) = false → topT t = t) := ⟨fun h => by unfold topT; rw [if_pos h], fun h => by unfold topT; rw [if_neg (by rw [h]; decide)]⟩
    obtain ⟨tp, htp⟩ : ∃ tp, tp = topT t := ⟨_, rfl⟩
    rw [← htp] at htop ztop ⊢
    have HE := Lib.hid (show nm ++ ⟨#[32]⟩ ++ c ++ ⟨#[32]⟩ ++ s ++ ⟨#[32]⟩ ++ tp = fourT nm c s tp from rfl)
    have q1 := fun w => run_string_add_sum (P := Tryd.prog) (w := w) nm ⟨#[32]⟩ (by rw [one_size]; omega)
    have q2 := fun w => run_string_add_sum (P := Tryd.prog) (w := w) (nm ++ ⟨#[32]⟩) c (by simp only [ByteArray.size_append, one_size]; omega)
    have q3 := fun w => run_string_add_sum (P := Tryd.prog) (w := w) (nm ++ ⟨#[32]⟩ ++ c) ⟨#[32]⟩ (by simp only [ByteArray.size_append, one_size]; omega)
    have q4 := fun w => run_string_add_sum (P := Tryd.prog) (w := w) (nm ++ ⟨#[32]⟩ ++ c ++ ⟨#[32]⟩) s (by simp only [ByteArray.size_append, one_size]; omega)
    have q5 := fun w => run_string_add_sum (P := Tryd.prog) (w := w) (nm ++ ⟨#[32]⟩ ++ c ++ ⟨#[32]⟩ ++ s) ⟨#[32]⟩ (by simp only [ByteArray.size_append, one_size]; omega)
    have q6 := fun w => run_string_add_sum (P := Tryd.prog) (w := w) (nm ++ ⟨#[32]⟩ ++ c ++ ⟨#[32]⟩ ++ s ++ ⟨#[32]⟩) tp (by simp only [ByteArray.size_append, one_size]; omega)
    clear hok hk zn zc zs zt ztop htp e0 hr9 h1 hk9
    have ac0 : Below w.heap.size w w := Below.refl _ _
    generalize fourT nm c s tp = four at *
    cases ht : (t.toList == ([] : List UInt8))
    case' false =>
      have e := htop.2 ht
      subst tp
    case' true =>
      have e := htop.1 ht
      subst tp
    all_goals
      clear htop
      go_enter Tryd.func49, Tryd.ntmps49
      go_wp2_with (fail)
      go_region_held3 (fun w' => w'.cell? ⟨B, 0, none⟩ = some (.int .i64 (r : Int)) ∧ w'.cell? ⟨B, 1, none⟩ = some (.string c) ∧ w'.cell? ⟨B, 2, none⟩ = some (.string s) ∧ w'.cell? ⟨B, 3, none⟩ = some (.string t) ∧ Below w.heap.size w w')
        (first | assumption | (with_reducible exact keep4 (by assumption) (by assumption)) | (with_reducible exact drew4 ⟨c0, c1, c2, c3, ac0⟩) | (with_reducible exact ⟨c0, c1, c2, c3, ac0⟩))
        (first
          | (go_at_call 34; (with_reducible refine (HN.out _).mono ?_); rintro e w2 ⟨g, rfl, hst, hg, hb⟩))
      all_goals
        rename_i hH
        obtain ⟨-, -, -, -, hB⟩ := hH
        have AC2 := Lib.hid hB
        clear hB
        go_wp2_with (fail)
        go_ret
        exact ⟨sretS HE.out, AC2.out⟩
set_option maxRecDepth 100000 in
theorem smarktext_any (k : Int) (c s t : ByteArray) (w : World) :
    Calls Tryd.prog 29 #[.agg #[.int .i64 k, .string c, .string s, .string t]] w fun e w' => e = .returned (.string (markText k c s t)) ∧ Below w.heap.size w w' := by
  have H := fun w' h => smkok_any w.heap.size k c s t w' h
  unfold markText
  cases hok : mkOk k c s t
  · rw [hok] at H
    replace H := Lib.hid H
    clear hok
    simp only [Bool.false_eq_true, if_false]
    go_enter Tryd.func29, Tryd.ntmps29
    go_wp2_with (go_at_call 43; refine (H.out _ (MarkCells.new w _ _ rfl k c s t)).mono ?_; rintro e w1 ⟨rfl, hb⟩; have AC := Lib.hid (Below.next (a := w) (by go_grown) hb); clear hb)
    go_ret
    exact ⟨rfl, AC.out⟩
  · rw [hok] at H
    replace H := Lib.hid H
    have HT := Lib.hid (fun w' h => stextmark_any w.heap.size k c s t w' hok h)
    generalize mkT k c s t = tx at *
    clear hok
    simp only [if_true]
    go_enter Tryd.func29, Tryd.ntmps29
    go_wp2_with (go_at_call 43; refine (H.out _ (MarkCells.new w _ _ rfl k c s t)).mono ?_; rintro e w1 ⟨rfl, hb⟩; refine Hid.out ?_)
    refine Lib.hid ?_
    have HC := Lib.hid ((MarkCells.new w 28 _ rfl k c s t).below hb)
    have AC := Lib.hid (Below.next (a := w) (by go_grown) hb)
    clear hb
    go_wp2_with (go_at_call 49; refine (HT.out _ HC.out).mono ?_; rintro e w2 ⟨rfl, hb⟩; have AC2 := Lib.hid (Below.next AC.out hb); clear hb)
    go_ret
    exact ⟨rfl, AC2.out⟩
end Go.Proofs.YthheacebafleeaaDoor
