/- The law of ChannelLength. -/
import Derived.Test.YtcoldhdghcdaeaaLenS
import Derived.Test.YtcoldhdghcdaeaaChnA
import Derived.Deep.RegionWith
import Derived.Deep.CutRange
namespace Go.Proofs.Ytcoldhdghcdaeaa
open Go.ChangeShapes Go.WideShapes Go.ChangeAt Go.RowKit Pm

set_option maxRecDepth 100000 in
set_option maxHeartbeats 4000000 in
theorem channellength_law (gv : Value) (c : Chn) (w : World) (h : ArgChn w gv c) :
    Calls Try.prog 5 #[.agg #[.string c.name, gv, .int .i64 c.width]] w fun e w' => e = .returned (.bool true) ∧ Below w.heap.size w w' := by
  obtain ⟨s, ps, z⟩ := c
  obtain ⟨⟨a, k, rfl, hp⟩, hl, hn, hz⟩ := h
  simp only at hp hl hn hz ⊢
  have G := Lib.hid hp
  have SZ := Lib.hid (fun w' => szchn_any s z a ps.length k 1048576 w' hn hl (by omega) (by omega))
  clear hp hl
  go_enter Try.func5, Try.ntmps5
  go_wp2_with (go_at_call 11; (refine (SZ.out _).mono ?_); rintro e w1 ⟨r, hr, rfl, hb⟩; refine Hid.out ?_)
  refine Lib.hid ?_
  have XA := Lib.hid (show ChnAt w1 w.heap.size s (.slice a ps.length k) z from (ChnAt.new (w := w) s (.slice a ps.length k) z _ rfl).below hb)
  have AC := Lib.hid (Below.next (a := w) (by go_grown) hb)
  clear hb SZ
  rcases hr with rfl | ⟨r0, r1, hs, hm⟩
  · go_wp2
    go_ret
    exact ⟨rfl, AC.out⟩
  · have nr : ¬ r < 0 := by omega
    have hm2 : ps.length ≤ 1048576 := by omega
    have T := Lib.hid (fun w' h => tochn_any s z a ps.length k ps w' h hm2)
    have SP := Lib.hid (fun w' v h => schlen_any s z v ps w' hn hm2 h)
    have IM := Lib.hid (fun w' v h => chlen_any s z v ps w' hn hm2 h)
    have EQ := Lib.hid (fun w' v1 v2 h1 h2 => eqchn_same s z ps v1 v2 w' hm2 h1 h2)
    obtain ⟨R1, hR1⟩ : ∃ R, R = lenA s ps z := ⟨_, rfl⟩
    obtain ⟨R2, hR2⟩ : ∃ R, R = lenE s ps z := ⟨_, rfl⟩
    rw [← hR1, ← hR2] at SP IM
    clear hR1 hR2 r0 r1 hs hm
    obtain ⟨x0, x1, x2⟩ := XA.out
    go_wp2_with (go_at_call 13; (with_reducible refine (T.out _ (G.out.below AC.out)).mono ?_); rintro e w2 ⟨v1, rfl, ho, hb⟩; refine Hid.out ?_)
    refine Lib.hid ?_
    have I1 := Lib.hid (ho.pts hm2)
    have XA := Lib.hid (XA.out.below hb)
    have AC := Lib.hid (Below.next AC.out hb)
    clear hb ho x0 x1 x2 nr
    obtain ⟨x0, x1, x2⟩ := XA.out
    go_wp2_with (go_at_call 18; (with_reducible refine (SP.out _ _ I1.out).mono ?_); rintro e w3 ⟨rfl, hb⟩; refine Hid.out ?_)
    refine Lib.hid ?_
    have XA := Lib.hid (XA.out.below hb)
    have AC := Lib.hid (Below.next AC.out hb)
    clear hb I1 x0 x1 x2
    obtain ⟨x0, x1, x2⟩ := XA.out
    go_wp2_with (go_at_call 13; (with_reducible refine (T.out _ (G.out.below AC.out)).mono ?_); rintro e w4 ⟨v2, rfl, ho, hb⟩; refine Hid.out ?_)
    refine Lib.hid ?_
    have I1 := Lib.hid (ho.ptsc hm2)
    have XA := Lib.hid (XA.out.below hb)
    have AC := Lib.hid (Below.next AC.out hb)
    obtain ⟨da, dn, rfl⟩ := ho.form
    clear ho hb x0 x1 x2
    have hsz := AC.out.size
    have N0 := Lib.hid (ChnAt.new (w := w4) (T := 29) s (.slice da ps.length dn) z w4.heap.size rfl)
    have ab := (Below.refl w4.heap.size w4).alloc (Nat.le_refl _) (.cells #[.string s, .slice da ps.length dn, .int .i64 z] 29)
    have XA := Lib.hid (XA.out.below ab)
    have I1 := Lib.hid (I1.out.below ab)
    have AC := Lib.hid (Below.next AC.out ab)
    clear ab
    obtain ⟨x0, x1, x2⟩ := N0.out
    go_wp2_with (go_at_call 19; (with_reducible refine (IM.out _ _ I1.out).mono ?_); rintro e w5 ⟨rfl, hb⟩; refine Hid.out ?_)
    refine Lib.hid ?_
    have XA := Lib.hid (show ChnAt w5.drew _ _ _ _ from XA.out.below hb.drew)
    have N0 := Lib.hid (show ChnAt w5.drew _ _ _ _ from N0.out.below hb.drew)
    have I1 := Lib.hid (show PtsL w5.drew _ _ from I1.out.1.below hb.drew)
    have AC := Lib.hid (show Below w.heap.size w w5.drew from Below.next AC.out hb.drew)
    clear hb x0 x1 x2 SP IM
    obtain ⟨x0, x1, x2⟩ := (show ChnAt w5 _ _ _ _ from N0.out)
    obtain ⟨y0, y1, y2⟩ := (show ChnAt w5 _ _ _ _ from XA.out)
    go_wp2_with (fail)
    go_region_with (first
      | (go_at_call 13; (with_reducible refine (T.out _ (G.out.below AC.out)).mono ?_); rintro e wn ⟨v3, rfl, ho, hb⟩; have J1 := Lib.hid (ho.pts hm2); replace I1 := Lib.hid (I1.out.below hb); replace N0 := Lib.hid (N0.out.below hb); replace AC := Lib.hid (Below.next AC.out hb); clear ho hb; obtain ⟨x0, x1, x2⟩ := N0.out)
      | (go_at_call 15; (with_reducible refine (EQ.out _ _ _ I1.out J1.out).mono ?_); rintro e wo ⟨rfl, hb⟩; replace AC := Lib.hid (Below.next AC.out hb); clear hb))
    all_goals
      go_wp2
      go_ret
      exact ⟨rfl, AC.out⟩
end Go.Proofs.Ytcoldhdghcdaeaa
