/- The law of KindsLike. -/
import Derived.Test.YthheacebafleeaaDoorMrkB
import Derived.Test.YthheacebafleeaaDoorMrkH
import Derived.Test.YthheacebafleeaaDoorMrkU
import Derived.Test.YthheacebafleeaaDoorMrkA
namespace Go.Proofs.YthheacebafleeaaDoor
open Go.ChangeShapes Go.WideShapes Go.ChangeAt Go.RowKit Pm

/-- An answer's contract, the list hidden. -/
def KL (zs : List Int) (w : World) (e : Ending) (w' : World) : Prop :=
  ∃ v, e = .returned v ∧ w'.ownsRow w.heap.size 2 1 v zs.length (intV zs) ∧ Below w.heap.size w w'
theorem drew_own {w : World} {B : Nat} {T : TypeId} {v : Value} {n : Nat} {xs : List Value} (m : Nat) (h : w.ownsRow B T 1 v n xs) : (w.drewN m).ownsRow B T 1 v n xs :=
  own_below h (below_drewN (Below.refl _ _) m)
set_option maxRecDepth 100000 in
set_option maxHeartbeats 800000 in
theorem kindslike_law (c s t : ByteArray) (zc : c.size ≤ maxLen) (zs : s.size ≤ maxLen) (zt : t.size ≤ maxLen) (w : World) (hL : laidMetH Tryd.prog Rows.fnExactKindsLikeRow.laid w) :
    Calls Tryd.prog 8 #[.string c, .string s, .string t] w fun e w' => e = .returned (.bool true) ∧ Below w.heap.size w w' := by
  rw [MakeChecks.laidMetH_plain _ _ _ (by kernel_rfl)] at hL
  have HM := Lib.hid (marks_in hL (by kernel_rfl))
  have HP := Lib.hid (space_in hL (by kernel_rfl))
  clear hL
  unfold maxLen at zc zs zt
  by_cases hl : c.size ≤ 1048576 ∧ s.size ≤ 1048576 ∧ t.size ≤ 1048576
  · obtain ⟨hc, hs, ht⟩ := hl
    have HS := Lib.hid (show ∀ w, Calls Tryd.prog 24 #[.string c, .string s, .string t] w (KL (likesN c s t) w) from fun w => skinds_any c s t w)
    have HI := Lib.hid (show ∀ w, MarksAt w → SpaceAt w → Calls Tryd.prog 25 #[.string c, .string s, .string t] w (KL (likesN c s t) w) from fun w => kindslike_any c s t w)
    have hm : (likesN c s t).length ≤ 2097152 := Nat.le_trans (likN_len _ 10) (by omega)
    generalize likesN c s t = ys at *
    have hc2 : ¬ (1048576 : Int) < (c.size : Int) := by omega
    have hs2 : ¬ (1048576 : Int) < (s.size : Int) := by omega
    have ht2 : ¬ (1048576 : Int) < (t.size : Int) := by omega
    go_enter Tryd.func8, Tryd.ntmps8
    go_wp2_with (go_at_call 24; refine (HS.out _).mono ?_; rintro e w1 ⟨v1, rfl, o1, b1⟩; refine Hid.out ?_)
    refine Lib.hid ?_
    have O1 := Lib.hid o1
    have B1 := Lib.hid b1
    clear o1 b1
    go_wp2_with (go_at_call 25; refine (HI.out _ (HM.out.below B1.out) (HP.out.below B1.out)).mono ?_; rintro e w2 ⟨v2, rfl, o2, b2⟩; refine Hid.out ?_)
    refine Lib.hid ?_
    have O1b := Lib.hid (own_below O1.out b2)
    have O2 := Lib.hid o2
    have B2 := Lib.hid b2
    clear o2 b2
    go_wp2_with (go_at_call 26; refine (eqints_same _ _ ys _ (ints_of_own O2.out (by omega)) (ints_of_own O1b.out (by omega))).mono ?_; rintro e w3 ⟨rfl, n3, rfl⟩; refine Hid.out ?_)
    refine Lib.hid ?_
    have O2c := Lib.hid (drew_own n3 O2.out)
    have B2c := Lib.hid (below_drewN B2.out n3)
    go_wp2_with (go_at_call 27; refine (mark_any _ _ _ _ _ 1 (by omega) (by omega) hm O2c.out).mono ?_; rintro e w4 ⟨rfl, o4, b4⟩; refine Hid.out ?_)
    refine Lib.hid ?_
    have O4 := Lib.hid o4
    have B4 := Lib.hid (B2c.out.trans b4)
    clear o4 b4
    have B4w := Lib.hid (B1.out.trans (B4.out.mono B1.out.size))
    have O1d := Lib.hid (own_below O1.out B4.out)
    go_wp2_with (go_at_call 28; refine (held_any _ _ _ _ 1 (by omega) (by omega) hm O4.out).mono ?_; rintro e w5 ⟨rfl, rfl⟩; refine Hid.out ?_)
    refine Lib.hid ?_
    go_wp2_with (go_at_call 25; refine (HI.out _ (HM.out.below B4w.out) (HP.out.below B4w.out)).mono ?_; rintro e w6 ⟨v3, rfl, o6, b6⟩; refine Hid.out ?_)
    refine Lib.hid ?_
    have O6 := Lib.hid o6
    have O1e := Lib.hid (own_below O1d.out b6)
    have O4e := Lib.hid (own_below O4.out b6)
    have B6 := Lib.hid (B4w.out.trans (b6.mono B4w.out.size))
    clear o6 b6
    go_wp2_with (go_at_call 26; refine (eqints_same _ _ ys _ (ints_of_own O6.out (by omega)) (ints_of_own O1e.out (by omega))).mono ?_; rintro e w7 ⟨rfl, n7, rfl⟩; refine Hid.out ?_)
    refine Lib.hid ?_
    have O4f := Lib.hid (drew_own n7 O4e.out)
    have B7 := Lib.hid (below_drewN B6.out n7)
    go_wp2_with (go_at_call 28; refine (held_any _ _ _ _ 1 (by omega) (by omega) hm O4f.out).mono ?_; rintro e w8 ⟨rfl, rfl⟩; refine Hid.out ?_)
    refine Lib.hid ?_
    go_wp2_with (fail)
    go_ret
    exact ⟨rfl, B7.out⟩
  · have hh : 1048576 < c.size ∨ (c.size ≤ 1048576 ∧ 1048576 < s.size) ∨ (c.size ≤ 1048576 ∧ s.size ≤ 1048576 ∧ 1048576 < t.size) := by omega
    clear hl
    rcases hh with h | ⟨h1, h⟩ | ⟨h1, h2, h⟩
    all_goals
      have h3 : (1048576 : Int) < _ := Int.ofNat_lt.2 h
      first | have h4 : ¬ (1048576 : Int) < (c.size : Int) := by omega | skip
      first | have h5 : ¬ (1048576 : Int) < (s.size : Int) := by omega | skip
      go_enter Tryd.func8, Tryd.ntmps8
      go_wp2
      go_ret
      exact ⟨rfl, Below.refl _ _⟩
end Go.Proofs.YthheacebafleeaaDoor
