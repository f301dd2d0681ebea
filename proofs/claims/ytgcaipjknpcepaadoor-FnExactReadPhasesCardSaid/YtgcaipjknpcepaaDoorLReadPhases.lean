/- The law of ReadPhases. -/
import Derived.Test.YtgcaipjknpcepaaDoorRdhS
import Derived.Test.YtgcaipjknpcepaaDoorPhsK
import Derived.Stop.LaidErr
namespace Go.Proofs.YtgcaipjknpcepaaDoor
open Go.ChangeShapes Go.WideShapes Go.ChangeAt Go.RowKit Pm

/-- A call's answer: a row of phases of its own, and another value. -/
def OwnPair (L : List Ph) (z : Value) (w : World) (e : Ending) (w' : World) : Prop := ∃ v, e = .returned (.tuple #[v, z]) ∧ OwnPh w' w.heap.size v L ∧ Below w.heap.size w w'

set_option maxRecDepth 100000 in
set_option maxHeartbeats 1000000 in
theorem readphases_law (s : ByteArray) (w0 : s.size ≤ maxLen) (w : World) (hL : laidMetH Tryd.prog Rows.fnExactReadPhasesRow.laid w) (hsh : w.ShapedOpen Tryd.prog) :
    Calls Tryd.prog 12 #[.string s] w fun e w' => e = .returned (.bool true) ∧ Below w.heap.size w w' := by
  rw [MakeChecks.laidMetH_plain _ _ _ (by kernel_rfl)] at hL
  have HP := Lib.hid (pow_of hL)
  have HE := Lib.hid (show ErrsAt w from ⟨range_of hL.tail.tail.tail.tail, syn_of hL.tail.tail.tail.tail.tail⟩)
  have HN := Lib.hid (len_of hsh)
  clear hL hsh
  unfold maxLen at w0
  by_cases hl : s.size ≤ 1048576
  · have hm := rdh_len s
    have HS := Lib.hid (show ∀ w, Calls Tryd.prog 37 #[.string s] w (OwnPair (rdhL s) (.bool (rdhB s)) w) from fun w => sreadph_any s w hl)
    have HI := Lib.hid (show ∀ w, LenAt w → PowAt w → ErrsAt w → Calls Tryd.prog 38 #[.string s] w (OwnPair (rdhL s) (.bool (rdhB s)) w) from fun w => readph_any s w hl)
    obtain ⟨L, hLL⟩ : ∃ L, L = rdhL s := ⟨_, rfl⟩
    obtain ⟨b, hb⟩ : ∃ b, b = rdhB s := ⟨_, rfl⟩
    rw [← hLL, ← hb] at HS HI
    rw [← hLL] at hm
    have hm : L.length ≤ 1048576 := by omega
    clear hLL hb w0
    go_enter Tryd.func12, Tryd.ntmps12
    go_wp2_with (go_at_call 37; refine (HS.out _).mono ?_; rintro e w1 ⟨v1, rfl, o1, b1⟩; refine Hid.out ?_)
    refine Lib.hid ?_
    have O1 := Lib.hid o1
    have B1 := Lib.hid b1
    have HP := Lib.hid (HP.out.below b1)
    have HE := Lib.hid (HE.out.below b1)
    have HN := Lib.hid (HN.out.below b1)
    clear o1 b1
    go_wp2_with (go_at_call 38; refine (HI.out _ HN.out HP.out HE.out).mono ?_; rintro e w2 ⟨v2, rfl, o2, b2⟩; refine Hid.out ?_)
    refine Lib.hid ?_
    have O2 := Lib.hid o2
    have BC := Lib.hid b2
    clear o2 b2
    go_wp2_with (go_at_call 23; refine (eqphs_same _ _ L _ hm O2.out.are (O1.out.below BC.out).are).mono ?_; rintro e wq ⟨rfl, hb⟩; refine Hid.out ?_)
    refine Lib.hid ?_
    have O2 := Lib.hid (O2.out.below hb)
    have BC := Lib.hid (Below.next BC.out hb)
    clear hb
    go_wp2_with (go_at_call 24; refine (markph_any _ L w1.heap.size _ BC.out.size hm O2.out).mono ?_; rintro e wq ⟨rfl, o4, hb⟩; refine Hid.out ?_)
    refine Lib.hid ?_
    have O4 := Lib.hid o4
    have BC := Lib.hid (BC.out.trans hb)
    clear o4 hb
    go_wp2_with (go_at_call 25; refine (heldph_any _ L.length _ _ hm O4.out).mono ?_; rintro e wq ⟨rfl, hb⟩; refine Hid.out ?_)
    refine Lib.hid ?_
    have O4 := Lib.hid (O4.out.below hb)
    have BC := Lib.hid (Below.next BC.out hb)
    clear hb
    go_wp2_with (go_at_call 38; refine (HI.out _ (HN.out.below BC.out) (HP.out.below BC.out) (HE.out.below BC.out)).mono ?_; rintro e wq ⟨v3, rfl, o6, hb⟩; refine Hid.out ?_)
    refine Lib.hid ?_
    have O6 := Lib.hid o6
    have O4 := Lib.hid (O4.out.below hb)
    have BC := Lib.hid (Below.next BC.out hb)
    clear o6 hb
    go_wp2_with (go_at_call 23; refine (eqphs_same _ _ L _ hm O6.out.are (O1.out.below BC.out).are).mono ?_; rintro e wq ⟨rfl, hb⟩; refine Hid.out ?_)
    refine Lib.hid ?_
    have O4 := Lib.hid (O4.out.below hb)
    have BC := Lib.hid (Below.next BC.out hb)
    clear hb
    go_wp2_with (go_at_call 25; refine (heldph_any _ L.length _ _ hm O4.out).mono ?_; rintro e wq ⟨rfl, hb⟩; refine Hid.out ?_)
    refine Lib.hid ?_
    have BC := Lib.hid (Below.next BC.out hb)
    clear hb
    go_wp2_with (fail)
    go_ret
    exact ⟨rfl, B1.out.trans (BC.out.mono B1.out.size)⟩
  · have hl2 : (1048576 : Int) < (s.size : Int) := by omega
    clear hl
    go_enter Tryd.func12, Tryd.ntmps12
    go_wp2
    go_ret
    exact ⟨rfl, Below.refl _ _⟩
end Go.Proofs.YtgcaipjknpcepaaDoor
