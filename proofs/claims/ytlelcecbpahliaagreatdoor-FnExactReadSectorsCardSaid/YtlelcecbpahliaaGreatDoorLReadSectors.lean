/- The law of ReadSectors. -/
import Derived.Test.YtlelcecbpahliaaGreatDoorRseS
import Derived.Test.YtlelcecbpahliaaGreatDoorSctK
import Derived.Stop.LaidErr
namespace Go.Proofs.YtlelcecbpahliaaGreatDoor
open Go.ChangeShapes Go.WideShapes Go.ChangeAt Go.RowKit Pm

/-- A call's answer: a row of sectors of its own, and another value. -/
def OwnPairS (L : List Sec) (z : Value) (w : World) (e : Ending) (w' : World) : Prop := ∃ v, e = .returned (.tuple #[v, z]) ∧ OwnSec w' w.heap.size v L ∧ Below w.heap.size w w'

set_option maxRecDepth 100000 in
set_option maxHeartbeats 1000000 in
theorem readsectors_law (s : ByteArray) (w0 : s.size ≤ maxLen) (w : World) (hL : laidMetH Tryz.prog Rows.fnExactReadSectorsRow.laid w) (hsh : w.ShapedOpen Tryz.prog) :
    Calls Tryz.prog 3 #[.string s] w fun e w' => e = .returned (.bool true) ∧ Below w.heap.size w w' := by
  rw [MakeChecks.laidMetH_plain _ _ _ (by kernel_rfl)] at hL
  have HP := Lib.hid (pow_of hL)
  have HE := Lib.hid (show ErrsAt w from ⟨range_of hL.tail.tail.tail.tail, syn_of hL.tail.tail.tail.tail.tail⟩)
  have HN := Lib.hid (lenS_of hsh)
  have H7 := Lib.hid (len7_of hsh)
  clear hL hsh
  unfold maxLen at w0
  by_cases hl : s.size ≤ 1048576
  · have hm := rds_len s
    have HS := Lib.hid (show ∀ w, Calls Tryz.prog 6 #[.string s] w (OwnPairS ((rdsS s).getD []) (.bool (rdsS s).isSome) w) from fun w => sreadsecs_any s w hl)
    have HI := Lib.hid (show ∀ w, LenAtS w → LenAt7 w → PowAt w → ErrsAt w → Calls Tryz.prog 7 #[.string s] w (OwnPairS ((rdsS s).getD []) (.bool (rdsS s).isSome) w) from fun w h1 h2 h3 h4 => by
      have h := readsecs_any s w hl h1 h2 h3 h4
      rw [rds_eq] at h
      exact h)
    obtain ⟨L, hLL⟩ : ∃ L, L = (rdsS s).getD [] := ⟨_, rfl⟩
    obtain ⟨b, hb⟩ : ∃ b, b = (rdsS s).isSome := ⟨_, rfl⟩
    rw [← hLL, ← hb] at HS HI
    rw [← hLL] at hm
    clear hLL hb w0
    go_enter Tryz.func3, Tryz.ntmps3
    go_wp2_with (go_at_call 6; refine (HS.out _).mono ?_; rintro e w1 ⟨v1, rfl, o1, b1⟩; refine Hid.out ?_)
    refine Lib.hid ?_
    have O1 := Lib.hid o1
    have B1 := Lib.hid b1
    have HP := Lib.hid (HP.out.below b1)
    have HE := Lib.hid (HE.out.below b1)
    have HN := Lib.hid (HN.out.below b1)
    have H7 := Lib.hid (H7.out.below b1)
    clear o1 b1
    go_wp2_with (go_at_call 7; refine (HI.out _ HN.out H7.out HP.out HE.out).mono ?_; rintro e w2 ⟨v2, rfl, o2, b2⟩; refine Hid.out ?_)
    refine Lib.hid ?_
    have O2 := Lib.hid o2
    have BC := Lib.hid b2
    clear o2 b2
    go_wp2_with (go_at_call 8; refine (eqsecs_same _ _ L _ hm O2.out.are (O1.out.below BC.out).are).mono ?_; rintro e wq ⟨rfl, hb⟩; refine Hid.out ?_)
    refine Lib.hid ?_
    have O2 := Lib.hid (O2.out.below hb)
    have BC := Lib.hid (Below.next BC.out hb)
    clear hb
    go_wp2_with (go_at_call 9; refine (marksec_any _ L w1.heap.size _ BC.out.size hm O2.out).mono ?_; rintro e wq ⟨rfl, o4, hb, _⟩; refine Hid.out ?_)
    refine Lib.hid ?_
    have O4 := Lib.hid o4
    have BC := Lib.hid (BC.out.trans hb)
    clear o4 hb
    go_wp2_with (go_at_call 10; refine (heldsec_any _ L.length _ _ hm O4.out).mono ?_; rintro e wq ⟨rfl, hb⟩; refine Hid.out ?_)
    refine Lib.hid ?_
    have O4 := Lib.hid (O4.out.below hb)
    have BC := Lib.hid (Below.next BC.out hb)
    clear hb
    go_wp2_with (go_at_call 7; refine (HI.out _ (HN.out.below BC.out) (H7.out.below BC.out) (HP.out.below BC.out) (HE.out.below BC.out)).mono ?_; rintro e wq ⟨v3, rfl, o6, hb⟩; refine Hid.out ?_)
    refine Lib.hid ?_
    have O6 := Lib.hid o6
    have O4 := Lib.hid (O4.out.below hb)
    have BC := Lib.hid (Below.next BC.out hb)
    clear o6 hb
    go_wp2_with (go_at_call 8; refine (eqsecs_same _ _ L _ hm O6.out.are (O1.out.below BC.out).are).mono ?_; rintro e wq ⟨rfl, hb⟩; refine Hid.out ?_)
    refine Lib.hid ?_
    have O4 := Lib.hid (O4.out.below hb)
    have BC := Lib.hid (Below.next BC.out hb)
    clear hb
    go_wp2_with (go_at_call 10; refine (heldsec_any _ L.length _ _ hm O4.out).mono ?_; rintro e wq ⟨rfl, hb⟩; refine Hid.out ?_)
    refine Lib.hid ?_
    have BC := Lib.hid (Below.next BC.out hb)
    clear hb
    go_wp2_with (fail)
    go_ret
    exact ⟨rfl, B1.out.trans (BC.out.mono B1.out.size)⟩
  · have hl2 : (1048576 : Int) < (s.size : Int) := by omega
    clear hl
    go_enter Tryz.func3, Tryz.ntmps3
    go_wp2
    go_ret
    exact ⟨rfl, Below.refl _ _⟩
end Go.Proofs.YtlelcecbpahliaaGreatDoor
