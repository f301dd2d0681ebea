/- The law of the reading of a list. -/
import Derived.Test.YtppfgcjeeokomaaDoorMark
namespace Go.Proofs.YtppfgcjeeokomaaDoor
open Go.ChangeShapes Go.WideShapes Go.ChangeAt Go.RowKit Pm

theorem rl_len (s : ByteArray) : (rlZ s).length ≤ s.size + 1 := by
  unfold rlZ
  split
  · simp
  · split
    · rw [List.length_map]; exact cutS_le 44 s
    · simp

/-- A reading's contract, the list hidden. -/
def RL (zs : List Int) (b : Bool) (w : World) (e : Ending) (w' : World) : Prop :=
  ∃ v, e = .returned (.tuple #[v, .bool b]) ∧ w'.ownsRow w.heap.size 2 1 v zs.length (intV zs) ∧ Below w.heap.size w w'

theorem drew_own {w : World} {B : Nat} {T : TypeId} {v : Value} {n : Nat} {xs : List Value} (m : Nat) (h : w.ownsRow B T 1 v n xs) : (w.drewN m).ownsRow B T 1 v n xs :=
  own_below h (below_drewN (Below.refl _ _) m)

set_option maxRecDepth 100000 in
set_option maxHeartbeats 800000 in
theorem readlist_law (s : ByteArray) (w0 : s.size ≤ maxLen) (w : World) (hL : laidMetH Tryd.prog Rows.fnExactReadListRow.laid w) (hsh : w.ShapedOpen Tryd.prog) :
    Calls Tryd.prog 9 #[.string s] w fun e w' => e = .returned (.bool true) ∧ Below w.heap.size w w' := by
  rw [MakeChecks.laidMetH_plain _ _ _ (by kernel_rfl)] at hL
  have hp := Lib.hid (pow_of hL)
  have hE := Lib.hid (show ErrsAt w from ⟨range_of hL.tail.tail.tail.tail, syn_of hL.tail.tail.tail.tail.tail⟩)
  have hN := Lib.hid (len_of hsh)
  clear hL hsh
  unfold maxLen at w0
  by_cases hl : s.size ≤ 1048576
  · have HS := Lib.hid (show ∀ w, Calls Tryd.prog 34 #[.string s] w (RL (rlZ s) (rlB s) w) from fun w => sreadlist_any s w hl)
    have HI := Lib.hid (show ∀ w, LenAt w → PowAt w → ErrsAt w → Calls Tryd.prog 17 #[.string s] w (RL (rlZ s) (rlB s) w) from fun w => readlist_any s w hl)
    have hlen := rl_len s
    obtain ⟨zs, hzs⟩ : ∃ zs, zs = rlZ s := ⟨_, rfl⟩
    obtain ⟨b, hb⟩ : ∃ b, b = rlB s := ⟨_, rfl⟩
    rw [← hzs, ← hb] at HS HI
    rw [← hzs] at hlen
    have hm : zs.length ≤ 2097152 := by omega
    clear hzs hb w0 hlen
    cases b
    all_goals
      go_enter Tryd.func9, Tryd.ntmps9
      go_wp2_with (go_at_call 34; refine (HS.out _).mono ?_; rintro e w1 ⟨v1, rfl, o1, b1⟩; refine Hid.out ?_)
      refine Lib.hid ?_
      have O1 := Lib.hid o1
      have B1 := Lib.hid b1
      clear o1 b1
      go_wp2_with (go_at_call 17; refine (HI.out _ (LenAt.below hN.out B1.out) (PowAt.below hp.out B1.out) (ErrsAt.below hE.out B1.out)).mono ?_; rintro e w2 ⟨v2, rfl, o2, b2⟩; refine Hid.out ?_)
      refine Lib.hid ?_
      have O1b := Lib.hid (own_below O1.out b2)
      have O2 := Lib.hid o2
      have B2 := Lib.hid b2
      clear o2 b2
      go_wp2_with (go_at_call 33; refine (eqints_same _ _ zs _ (ints_of_own O2.out (by omega)) (ints_of_own O1b.out (by omega))).mono ?_; rintro e w3 ⟨rfl, n3, rfl⟩; refine Hid.out ?_)
      refine Lib.hid ?_
      have O2c := Lib.hid (drew_own n3 O2.out)
      have B2c := Lib.hid (below_drewN B2.out n3)
      go_wp2_with (go_at_call 35; refine (mark_any _ _ _ _ _ 1 (by omega) (by omega) hm O2c.out).mono ?_; rintro e w4 ⟨rfl, o4, b4⟩; refine Hid.out ?_)
      refine Lib.hid ?_
      have O4 := Lib.hid o4
      have B4 := Lib.hid (B2c.out.trans b4)
      clear o4 b4
      have B4w := Lib.hid (B1.out.trans (B4.out.mono B1.out.size))
      have O1d := Lib.hid (own_below O1.out B4.out)
      go_wp2_with (go_at_call 36; refine (held_any _ _ _ _ 1 (by omega) (by omega) hm O4.out).mono ?_; rintro e w5 ⟨rfl, rfl⟩; refine Hid.out ?_)
      refine Lib.hid ?_
      go_wp2_with (go_at_call 17; refine (HI.out _ (LenAt.below hN.out B4w.out) (PowAt.below hp.out B4w.out) (ErrsAt.below hE.out B4w.out)).mono ?_; rintro e w6 ⟨v3, rfl, o6, b6⟩; refine Hid.out ?_)
      refine Lib.hid ?_
      have O6 := Lib.hid o6
      have O1e := Lib.hid (own_below O1d.out b6)
      have O4e := Lib.hid (own_below O4.out b6)
      have B6 := Lib.hid (B4w.out.trans (b6.mono B4w.out.size))
      clear o6 b6
      go_wp2_with (go_at_call 33; refine (eqints_same _ _ zs _ (ints_of_own O6.out (by omega)) (ints_of_own O1e.out (by omega))).mono ?_; rintro e w7 ⟨rfl, n7, rfl⟩; refine Hid.out ?_)
      refine Lib.hid ?_
      have O4f := Lib.hid (drew_own n7 O4e.out)
      have B7 := Lib.hid (below_drewN B6.out n7)
      go_wp2_with (go_at_call 36; refine (held_any _ _ _ _ 1 (by omega) (by omega) hm O4f.out).mono ?_; rintro e w8 ⟨rfl, rfl⟩; refine Hid.out ?_)
      refine Lib.hid ?_
      go_wp2_with (fail)
      go_ret
      exact ⟨rfl, B7.out⟩
  · have hl2 : (1048576 : Int) < (s.size : Int) := by omega
    clear hl
    go_enter Tryd.func9, Tryd.ntmps9
    go_wp2
    go_ret
    exact ⟨rfl, Below.refl _ _⟩
end Go.Proofs.YtppfgcjeeokomaaDoor
