/- The law of the words of a text. -/
import Derived.Test.YtppfgcjeeokomaaDoorHeldT
import Derived.Test.YtppfgcjeeokomaaDoorReadL
namespace Go.Proofs.YtppfgcjeeokomaaDoor
open Go.ChangeShapes Go.WideShapes Go.ChangeAt Go.RowKit Pm

set_option maxRecDepth 100000 in
set_option maxHeartbeats 800000 in
theorem words_law (s : ByteArray) (w0 : s.size ≤ maxLen) (w : World) (hsh : w.ShapedOpen Tryd.prog) :
    Calls Tryd.prog 7 #[.string s] w fun e w' => e = .returned (.bool true) ∧ Below w.heap.size w w' := by
  have hN := Lib.hid (len_of hsh)
  clear hsh
  unfold maxLen at w0
  by_cases hl : s.size ≤ 1048576
  · have HS := Lib.hid (fun w => swords_any s w hl)
    have HI := Lib.hid (fun w h => words_any s w hl h)
    have hlen := words_le s
    obtain ⟨ps, hps⟩ : ∃ ps, ps = wordsS s := ⟨_, rfl⟩
    rw [← hps] at HS HI hlen
    have hm : ps.length ≤ 2097152 := by omega
    clear hps w0 hlen
    go_enter Tryd.func7, Tryd.ntmps7
    go_wp2_with (go_at_call 26; refine (HS.out _).mono ?_; rintro e w1 ⟨v1, rfl, o1, b1⟩; refine Hid.out ?_)
    refine Lib.hid ?_
    have O1 := Lib.hid o1
    have B1 := Lib.hid b1
    clear o1 b1
    go_wp2_with (go_at_call 27; refine (HI.out _ (LenAt.below hN.out B1.out)).mono ?_; rintro e w2 ⟨v2, rfl, o2, b2⟩; refine Hid.out ?_)
    refine Lib.hid ?_
    have O1b := Lib.hid (own_below O1.out b2)
    have O2 := Lib.hid o2
    have B2 := Lib.hid b2
    clear o2 b2
    go_wp2_with (go_at_call 28; refine (eqstrs_same _ _ _ _ _ _ ps _ hm O2.out O1b.out).mono ?_; rintro e w3 ⟨rfl, n3, rfl⟩; refine Hid.out ?_)
    refine Lib.hid ?_
    have O2c := Lib.hid (drew_own n3 O2.out)
    have B2c := Lib.hid (below_drewN B2.out n3)
    go_wp2_with (go_at_call 29; refine (markt_any _ _ _ _ _ B2c.out.size hm O2c.out).mono ?_; rintro e w4 ⟨rfl, o4, b4⟩; refine Hid.out ?_)
    refine Lib.hid ?_
    have O4 := Lib.hid o4
    have B4 := Lib.hid (B2c.out.trans b4)
    clear o4 b4
    have B4w := Lib.hid (B1.out.trans (B4.out.mono B1.out.size))
    have O1d := Lib.hid (own_below O1.out B4.out)
    go_wp2_with (go_at_call 30; refine (heldt_any _ _ _ _ hm O4.out).mono ?_; rintro e w5 ⟨rfl, b5⟩; refine Hid.out ?_)
    refine Lib.hid ?_
    have O1e := Lib.hid (own_below O1d.out b5)
    have O4e := Lib.hid (own_below O4.out b5)
    have B5 := Lib.hid (B4w.out.trans (b5.mono B4w.out.size))
    clear b5
    go_wp2_with (go_at_call 27; refine (HI.out _ (LenAt.below hN.out B5.out)).mono ?_; rintro e w6 ⟨v3, rfl, o6, b6⟩; refine Hid.out ?_)
    refine Lib.hid ?_
    have O6 := Lib.hid o6
    have O1f := Lib.hid (own_below O1e.out b6)
    have O4f := Lib.hid (own_below O4e.out b6)
    have B6 := Lib.hid (B5.out.trans (b6.mono B5.out.size))
    clear o6 b6
    go_wp2_with (go_at_call 28; refine (eqstrs_same _ _ _ _ _ _ ps _ hm O6.out O1f.out).mono ?_; rintro e w7 ⟨rfl, n7, rfl⟩; refine Hid.out ?_)
    refine Lib.hid ?_
    have O4g := Lib.hid (drew_own n7 O4f.out)
    have B7 := Lib.hid (below_drewN B6.out n7)
    go_wp2_with (go_at_call 30; refine (heldt_any _ _ _ _ hm O4g.out).mono ?_; rintro e w8 ⟨rfl, b8⟩; refine Hid.out ?_)
    refine Lib.hid ?_
    have B8 := Lib.hid (B7.out.trans (b8.mono B7.out.size))
    clear b8
    go_wp2_with (fail)
    go_ret
    exact ⟨rfl, B8.out⟩
  · have hl2 : (1048576 : Int) < (s.size : Int) := by omega
    clear hl
    go_enter Tryd.func7, Tryd.ntmps7
    go_wp2
    go_ret
    exact ⟨rfl, Below.refl _ _⟩
end Go.Proofs.YtppfgcjeeokomaaDoor
