/- The law of PlaceAlong. -/
import Derived.Test.YtcoldhdghcdaeaaPlaB
import Derived.Test.YtcoldhdghcdaeaaChnA
import Derived.Deep.RegionWith
import Derived.Deep.CutRange
namespace Go.Proofs.Ytcoldhdghcdaeaa
open Go.ChangeShapes Go.WideShapes Go.ChangeAt Go.RowKit Pm

/-- A point in memory. -/
def PtAt (w : World) (b : Nat) (x y : Int) : Prop := w.cell? ⟨b, 0, none⟩ = some (.int .i64 x) ∧ w.cell? ⟨b, 1, none⟩ = some (.int .i64 y)
theorem PtAt.below {w w' : World} {b : Nat} {x y : Int} (h : PtAt w b x y) (hb : Below w.heap.size w w') : PtAt w' b x y := ⟨cell_below h.1 hb, cell_below h.2 hb⟩
theorem PtAt.new (w : World) (T : TypeId) (x y : Int) : PtAt (w.alloc (.cells #[.int .i64 x, .int .i64 y] T)) w.heap.size x y := ⟨by simp, by simp⟩
set_option maxRecDepth 100000 in
set_option maxHeartbeats 4000000 in
theorem placealong_law (gv : Value) (c : Chn) (d : Int) (w : World) (h : ArgChn w gv c) :
    Calls Try.prog 6 #[.agg #[.string c.name, gv, .int .i64 c.width], .int .i64 d] w fun e w' => e = .returned (.bool true) ∧ Below w.heap.size w w' := by
  obtain ⟨s, ps, z⟩ := c
  obtain ⟨⟨a, k, rfl, hp⟩, hl, hn, hz⟩ := h
  simp only at hp hl hn hz ⊢
  have G := Lib.hid hp
  have SZ := Lib.hid (fun w' => szchn_any s z a ps.length k 1048576 w' hn hl (by omega) (by omega))
  clear hp hl
  go_enter Try.func6, Try.ntmps6
  go_wp2_with (go_at_call 11; (refine (SZ.out _).mono ?_); rintro e w1 ⟨r, hr, rfl, hb⟩; refine Hid.out ?_)
  refine Lib.hid ?_
  have XA := Lib.hid (show ChnAt w1 w.heap.size s (.slice a ps.length k) z from (ChnAt.new (w := w) s (.slice a ps.length k) z _ rfl).below hb)
  have AC := Lib.hid (Below.next (a := w) (by go_grown) hb)
  clear hb SZ
  rcases hr with rfl | ⟨r0, r1, hs, hm⟩
  · go_wp2
    go_ret
    exact ⟨rfl, AC.out⟩
  · have nr : ¬ r < 0 := by omega
    have hm2 : ps.length ≤ 1048576 := by omega
    have T := Lib.hid (fun w' h => tochn_any s z a ps.length k ps w' h hm2)
    have SP := Lib.hid (fun w' v h => splacealong_any s z v ps d w' hn hm2 h)
    have IM := Lib.hid (fun w' v h => placealong_any s z v ps d w' hn hm2 h)
    have EQ := Lib.hid (fun w' v1 v2 h1 h2 => eqchn_same s z ps v1 v2 w' hm2 h1 h2)
    obtain ⟨X, hX⟩ : ∃ R, R = plX s ps z d := ⟨_, rfl⟩
    obtain ⟨Y, hY⟩ : ∃ R, R = plY s ps z d := ⟨_, rfl⟩
    obtain ⟨E, hE⟩ : ∃ R, R = plE s ps z d := ⟨_, rfl⟩
    rw [← hX, ← hY, ← hE] at SP IM
    clear hX hY hE r0 r1 hs hm
    obtain ⟨x0, x1, x2⟩ := XA.out
    go_wp2_with (go_at_call 13; (with_reducible refine (T.out _ (G.out.below AC.out)).mono ?_); rintro e w2 ⟨v1, rfl, ho, hb⟩; refine Hid.out ?_)
    refine Lib.hid ?_
    have I1 := Lib.hid (ho.pts hm2)
    have XA := Lib.hid (XA.out.below hb)
    have AC := Lib.hid (Below.next AC.out hb)
    clear hb ho x0 x1 x2 nr
    obtain ⟨x0, x1, x2⟩ := XA.out
    go_wp2_with (go_at_call 20; (with_reducible refine (SP.out _ _ I1.out).mono ?_); rintro e w3 ⟨rfl, hb⟩; refine Hid.out ?_)
    refine Lib.hid ?_
    have ab := (Below.refl w3.heap.size w3).alloc (Nat.le_refl _) (.cells #[.int .i64 X, .int .i64 Y] 37)
    have P0 := Lib.hid (PtAt.new w3 37 X Y)
    have XA := Lib.hid ((XA.out.below hb).below ab)
    have AC := Lib.hid (Below.next (Below.next AC.out hb) ab)
    clear hb I1 x0 x1 x2 ab
    obtain ⟨x0, x1, x2⟩ := XA.out
    go_wp2_with (go_at_call 13; (with_reducible refine (T.out _ (G.out.below AC.out)).mono ?_); rintro e w4 ⟨v2, rfl, ho, hb⟩; refine Hid.out ?_)
    refine Lib.hid ?_
    have I1 := Lib.hid (ho.ptsc hm2)
    have XA := Lib.hid (XA.out.below hb)
    have P0 := Lib.hid (P0.out.below hb)
    have AC := Lib.hid (Below.next AC.out hb)
    obtain ⟨da, dn, rfl⟩ := ho.form
    clear ho hb x0 x1 x2
    have hsz := AC.out.size
    have N0 := Lib.hid (ChnAt.new (w := w4) (T := 29) s (.slice da ps.length dn) z w4.heap.size rfl)
    have ab := (Below.refl w4.heap.size w4).alloc (Nat.le_refl _) (.cells #[.string s, .slice da ps.length dn, .int .i64 z] 29)
    have XA := Lib.hid (XA.out.below ab)
    have P0 := Lib.hid (P0.out.below ab)
    have I1 := Lib.hid (I1.out.below ab)
    have AC := Lib.hid (Below.next AC.out ab)
    clear ab
    obtain ⟨x0, x1, x2⟩ := N0.out
    go_wp2_with (go_at_call 21; (with_reducible refine (IM.out _ _ I1.out).mono ?_); rintro e w5 ⟨rfl, hb⟩; refine Hid.out ?_)
    refine Lib.hid ?_
    have ab := (Below.refl w5.heap.size w5).alloc (Nat.le_refl _) (.cells #[.int .i64 X, .int .i64 Y] 37)
    have P1 := Lib.hid (PtAt.new w5 37 X Y)
    have XA := Lib.hid ((XA.out.below hb).below ab)
    have P0 := Lib.hid ((P0.out.below hb).below ab)
    have N0 := Lib.hid ((N0.out.below hb).below ab)
    have I1 := Lib.hid ((I1.out.below hb).below ab)
    have AC := Lib.hid (Below.next (Below.next AC.out hb) ab)
    clear hb x0 x1 x2 ab SP IM
    obtain ⟨p0, p1⟩ := P0.out
    obtain ⟨q0, q1⟩ := P1.out
    go_wp2_with (go_at_call 22; (refine (eqpt_any _ _ _).mono ?_); rintro e w6 ⟨rfl, hb⟩; refine Hid.out ?_)
    refine Lib.hid ?_
    have XA := Lib.hid (show ChnAt w6.drew _ _ _ _ from XA.out.below hb.drew)
    have N0 := Lib.hid (show ChnAt w6.drew _ _ _ _ from N0.out.below hb.drew)
    have I1 := Lib.hid (show PtsL w6.drew _ _ from I1.out.1.below hb.drew)
    have AC := Lib.hid (show Below w.heap.size w w6.drew from Below.next AC.out hb.drew)
    clear hb p0 p1 q0 q1
    obtain ⟨x0, x1, x2⟩ := (show ChnAt w6 _ _ _ _ from N0.out)
    obtain ⟨y0, y1, y2⟩ := (show ChnAt w6 _ _ _ _ from XA.out)
    go_wp2_with (fail)
    go_region_with (first
      | (go_at_call 13; (with_reducible refine (T.out _ (G.out.below AC.out)).mono ?_); rintro e wn ⟨v3, rfl, ho, hb⟩; have J1 := Lib.hid (ho.pts hm2); replace I1 := Lib.hid (I1.out.below hb); replace N0 := Lib.hid (N0.out.below hb); replace AC := Lib.hid (Below.next AC.out hb); clear ho hb; obtain ⟨x0, x1, x2⟩ := N0.out)
      | (go_at_call 15; (with_reducible refine (EQ.out _ _ _ I1.out J1.out).mono ?_); rintro e wo ⟨rfl, hb⟩; replace AC := Lib.hid (Below.next AC.out hb); clear hb))
    all_goals
      go_wp2
      go_ret
      exact ⟨rfl, AC.out⟩
end Go.Proofs.Ytcoldhdghcdaeaa
