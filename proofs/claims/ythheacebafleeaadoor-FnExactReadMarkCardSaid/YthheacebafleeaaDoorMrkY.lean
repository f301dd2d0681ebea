/- Texts of marks: the model's. -/
import Derived.Test.YthheacebafleeaaDoorMrkY0
import Derived.Test.YthheacebafleeaaDoorMrkY1
namespace Go.Proofs.YthheacebafleeaaDoor
open Go.ChangeShapes Go.WideShapes Go.ChangeAt Go.RowKit Pm

set_option maxRecDepth 100000 in
theorem stextmark_any (B : Nat) (k : Int) (c s t : ByteArray) (w : World) (hok : mkOk k c s t = true) (h : MarkCells w B k c s t) :
    Calls Tryd.prog 49 #[.pointer (some ⟨B, 0, none⟩)] w fun e w' => e = .returned (.string (mkT k c s t)) ∧ Below w.heap.size w w' := by
  obtain ⟨c0, c1, c2, c3⟩ := h
  by_cases hk : k = 0
  · subst hk
    have e0 : mkT 0 c s t = ⟨#[110, 111, 110, 101]⟩ := by unfold mkT; rw [if_pos rfl]; rfl
    rw [e0]
    clear e0 hok
    go_enter Tryd.func49, Tryd.ntmps49
    go_wp2
    go_ret
    exact ⟨rfl, by go_grown⟩
  · obtain ⟨h1, zc, zs, zt⟩ := ok_look hok hk
    have hk9 := inb_yes h1
    obtain ⟨r, hr⟩ : ∃ r : Nat, k = (r : Int) := ⟨k.toNat, by omega⟩
    subst hr
    have e0 : mkT (r : Int) c s t = fourT (mkF (r : Int) 0) c s (topT t) := by unfold mkT; rw [if_neg hk]
    rw [e0]
    cases ht : (t.toList == ([] : List UInt8))
    · exact stext_false B r c s t _ w hk (by omega) zc zs (topT_size zt) ht (by unfold topT; rw [if_neg (by rw [ht]; decide)]) c0 c1 c2 c3
    · exact stext_true B r c s t _ w hk (by omega) zc zs (topT_size zt) ht (by unfold topT; rw [if_pos ht]) c0 c1 c2 c3
set_option maxRecDepth 100000 in
theorem smarktext_any (k : Int) (c s t : ByteArray) (w : World) :
    Calls Tryd.prog 29 #[.agg #[.int .i64 k, .string c, .string s, .string t]] w fun e w' => e = .returned (.string (markText k c s t)) ∧ Below w.heap.size w w' := by
  have H := fun w' h => smkok_any w.heap.size k c s t w' h
  unfold markText
  cases hok : mkOk k c s t
  · rw [hok] at H
    replace H := Lib.hid H
    clear hok
    simp only [Bool.false_eq_true, if_false]
    go_enter Tryd.func29, Tryd.ntmps29
    go_wp2_with (go_at_call 43; refine (H.out _ (MarkCells.new w _ _ rfl k c s t)).mono ?_; rintro e w1 ⟨rfl, hb⟩; have AC := Lib.hid (Below.next (a := w) (by go_grown) hb); clear hb)
    go_ret
    exact ⟨rfl, AC.out⟩
  · rw [hok] at H
    replace H := Lib.hid H
    have HT := Lib.hid (fun w' h => stextmark_any w.heap.size k c s t w' hok h)
    generalize mkT k c s t = tx at *
    clear hok
    simp only [if_true]
    go_enter Tryd.func29, Tryd.ntmps29
    go_wp2_with (go_at_call 43; refine (H.out _ (MarkCells.new w _ _ rfl k c s t)).mono ?_; rintro e w1 ⟨rfl, hb⟩; refine Hid.out ?_)
    refine Lib.hid ?_
    have HC := Lib.hid ((MarkCells.new w 28 _ rfl k c s t).below hb)
    have AC := Lib.hid (Below.next (a := w) (by go_grown) hb)
    clear hb
    go_wp2_with (go_at_call 49; refine (HT.out _ HC.out).mono ?_; rintro e w2 ⟨rfl, hb⟩; have AC2 := Lib.hid (Below.next AC.out hb); clear hb)
    go_ret
    exact ⟨rfl, AC2.out⟩
end Go.Proofs.YthheacebafleeaaDoor
