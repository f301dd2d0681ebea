/- The law of SideOfChannel. -/
import Derived.Test.YthccbipjmheoaaaIncS
import Derived.Test.YthccbipjmheoaaaChnA
import Derived.Deep.RegionWith
import Derived.Deep.CutRange
namespace Go.Proofs.Ythccbipjmheoaaa
open Go.ChangeShapes Go.WideShapes Go.ChangeAt Go.RowKit Pm

/-- A point in memory. -/
def PtAt (w : World) (b : Nat) (x y : Int) : Prop := w.cell? ⟨b, 0, none⟩ = some (.int .i64 x) ∧ w.cell? ⟨b, 1, none⟩ = some (.int .i64 y)
theorem PtAt.below {w w' : World} {b : Nat} {x y : Int} (h : PtAt w b x y) (hb : Below w.heap.size w w') : PtAt w' b x y := ⟨cell_below h.1 hb, cell_below h.2 hb⟩
set_option maxRecDepth 100000 in
set_option maxHeartbeats 4000000 in
theorem sideofchannel_law (gv : Value) (c : Chn) (px py : Int) (w : World) (h : ArgChn w gv c) :
    Calls Try.prog 4 #[.agg #[.string c.name, gv, .int .i64 c.width], .agg #[.int .i64 px, .int .i64 py]] w fun e w' => e = .returned (.bool true) ∧ Below w.heap.size w w' := by
  obtain ⟨s, ps, z⟩ := c
  obtain ⟨⟨a, k, rfl, hp⟩, hl, hn, hz⟩ := h
  simp only at hp hl hn hz ⊢
  have G := Lib.hid hp
  have SZ := Lib.hid (fun w' => szchn_any s z a ps.length k 1048576 w' hn hl (by omega) (by omega))
  clear hp hl
  go_enter Try.func4, Try.ntmps4
  go_wp2_with (go_at_call 11; (refine (SZ.out _).mono ?_); rintro e w1 ⟨r, hr, rfl, hb⟩; refine Hid.out ?_)
  refine Lib.hid ?_
  have XA := Lib.hid (show ChnAt w1 w.heap.size s (.slice a ps.length k) z from ((ChnAt.new (w := w) s (.slice a ps.length k) z _ rfl).below ((Below.refl _ _).alloc (Nat.le_refl _) (.cells #[.int .i64 px, .int .i64 py] 26))).below hb)
  have PA := Lib.hid (show PtAt w1 (w.heap.size + 1) px py from ⟨cell_below (by go_cell) hb, cell_below (by go_cell) hb⟩)
  have AC := Lib.hid (Below.next (a := w) (by go_grown) hb)
  clear hb SZ
  rcases hr with rfl | ⟨r0, r1, hs, hm⟩
  · go_wp2
    go_ret
    exact ⟨rfl, AC.out⟩
  · have nr : ¬ r < 0 := by omega
    have hm2 : ps.length ≤ 1048576 := by omega
    have T := Lib.hid (fun w' h => tochn_any s z a ps.length k ps w' h hm2)
    have SP := Lib.hid (fun w' v h => ssideofchn_any s z v ps px py w' hn hm2 h)
    have IM := Lib.hid (fun w' v h => sideofchn_any s z v ps px py w' hn hm2 h)
    have EQ := Lib.hid (fun w' v1 v2 h1 h2 => eqchn_same s z ps v1 v2 w' hm2 h1 h2)
    obtain ⟨Y, hY⟩ : ∃ R, R = sdC s ps z (px, py) := ⟨_, rfl⟩
    obtain ⟨E, hE⟩ : ∃ R, R = sdE s ps z (px, py) := ⟨_, rfl⟩
    rw [← hY, ← hE] at SP IM
    clear hY hE
    clear r0 r1 hs hm
    obtain ⟨x0, x1, x2⟩ := XA.out
    obtain ⟨p0, p1⟩ := PA.out
    replace XA := Lib.hid (show ChnAt w1.drew _ _ _ _ from XA.out.below (Below.refl _ _).drew)
    replace PA := Lib.hid (show PtAt w1.drew _ _ _ from PA.out.below (Below.refl _ _).drew)
    replace AC := Lib.hid (show Below w.heap.size w w1.drew from AC.out.drew)
    have I1 := Lib.hid True.intro
    go_wp2_with (fail)
    go_cut [6, 7] from 16 to 23 (fun r rr wx => r = .int .i64 Y ∧ rr = .int .i64 E ∧ ChnAt wx w.heap.size s (.slice a ps.length k) z ∧ PtAt wx (w.heap.size + 1) px py ∧ Below w.heap.size w wx)
    case first =>
      go_region_with (first
        | (go_at_call 13; (with_reducible refine (T.out _ (G.out.below AC.out)).mono ?_); rintro e wn ⟨v1, rfl, ho, hb⟩; replace I1 := Lib.hid (ho.ptsc hm2); replace XA := Lib.hid (XA.out.below hb); replace PA := Lib.hid (PA.out.below hb); replace AC := Lib.hid (Below.next AC.out hb); clear ho hb; obtain ⟨x0, x1, x2⟩ := XA.out; obtain ⟨p0, p1⟩ := PA.out)
        | (go_at_call 14; (refine (topoint_any _ _ _).mono ?_); rintro e wo ⟨rfl, hb⟩; (first | replace I1 := Lib.hid (I1.out.below hb) | skip); replace XA := Lib.hid (XA.out.below hb); replace PA := Lib.hid (PA.out.below hb); replace AC := Lib.hid (Below.next AC.out hb); clear hb; obtain ⟨x0, x1, x2⟩ := XA.out; obtain ⟨p0, p1⟩ := PA.out)
        | (go_at_call 17; (refine (SP.out _ _ I1.out).mono ?_); rintro e wq ⟨rfl, hb⟩; replace XA := Lib.hid (XA.out.below hb); replace PA := Lib.hid (PA.out.below hb); replace AC := Lib.hid (Below.next AC.out hb); clear hb I1; obtain ⟨x0, x1, x2⟩ := XA.out; obtain ⟨p0, p1⟩ := PA.out))
      all_goals
        go_wp2_with (fail)
        go_meet
        exact ⟨rfl, rfl, XA.out, PA.out, AC.out⟩
    case rest =>
      clear XA PA AC I1 SP nr x0 x1 x2 p0 p1
      obtain ⟨rfl, rfl, xa, pa, ac⟩ := hcut
      have XA := Lib.hid xa
      have PA := Lib.hid pa
      have AC := Lib.hid ac
      clear xa pa ac
      obtain ⟨x0, x1, x2⟩ := XA.out
      obtain ⟨p0, p1⟩ := PA.out
      go_wp2_with (go_at_call 13; (with_reducible refine (T.out _ (G.out.below AC.out)).mono ?_); rintro e w4 ⟨v2, rfl, ho, hb⟩; refine Hid.out ?_)
      refine Lib.hid ?_
      have J1 := Lib.hid (ho.ptsc hm2)
      replace XA := Lib.hid (XA.out.below hb)
      replace PA := Lib.hid (PA.out.below hb)
      replace AC := Lib.hid (Below.next AC.out hb)
      obtain ⟨da, dn, rfl⟩ := ho.form
      clear ho hb x0 x1 x2 p0 p1
      have N0 := Lib.hid (ChnAt.new (w := w4) (T := 31) s (.slice da ps.length dn) z w4.heap.size rfl)
      have ab := (Below.refl w4.heap.size w4).alloc (Nat.le_refl _) (.cells #[.string s, .slice da ps.length dn, .int .i64 z] 31)
      replace XA := Lib.hid (XA.out.below ab)
      replace PA := Lib.hid (PA.out.below ab)
      replace J1 := Lib.hid (J1.out.below ab)
      replace AC := Lib.hid (Below.next AC.out ab)
      clear ab
      obtain ⟨S, hcl, hS0, kR⟩ := clxG12 (w := w4.alloc (.cells #[.string s, .slice da ps.length dn, .int .i64 z] 31)) (fun w' => ChnAt w' w4.heap.size s (.slice da ps.length dn) z ∧ PtAt w' (w.heap.size + 1) px py ∧ PtsC w' (.slice da ps.length dn) ps ∧ ChnAt w' w.heap.size s (.slice a ps.length k) z ∧ Below w.heap.size w w') (fun _ _ ⟨x0, x1, x2, x3, x4⟩ hb => ⟨x0.below hb, x1.below hb, x2.below hb, x3.below hb, Below.next x4 hb⟩) ⟨N0.out, PA.out, J1.out, XA.out, AC.out⟩
      have n0 := fun p : Clx S => (kR p).1.1
      have n1 := fun p : Clx S => (kR p).1.2.1
      have n2 := fun p : Clx S => (kR p).1.2.2
      have p0 := fun p : Clx S => (kR p).2.1.1
      have p1 := fun p : Clx S => (kR p).2.1.2
      have KR := Lib.hid kR
      have hnS : Nonempty (Clx S) := ⟨⟨_, hS0⟩⟩
      clear kR
      go_wp2_with (fail)
      refine wp_region_clx S (by kernel_rfl) (by kernel_rfl) hS0 ?_
      repeat (go_big_quiet_step (first
        | (go_at_call 14; exact Clx.call hcl _ (topoint_any _ _ _))
        | (go_at_call 18; exact Clx.call hcl _ (IM.out _ _ (KR.out _).2.2.1))))
      refine wpQuiet_nil ?_
      intro _ hw'
      obtain ⟨p, rfl⟩ := hw'
      obtain ⟨nn, pp, jj, xx, bb⟩ := KR.out p
      clear n0 n1 n2 p0 p1 N0 PA J1 XA AC
      obtain ⟨n0, n1, n2⟩ := nn
      obtain ⟨x0, x1, x2⟩ := xx
      have XA := Lib.hid (show ChnAt (World.drew _) _ _ _ _ from (show ChnAt p.v _ _ _ _ from ⟨x0, x1, x2⟩).below (Below.refl _ _).drew)
      have N0 := Lib.hid (show ChnAt (World.drew _) _ _ _ _ from (show ChnAt p.v _ _ _ _ from ⟨n0, n1, n2⟩).below (Below.refl _ _).drew)
      have J1 := Lib.hid (show PtsL (World.drew _) _ _ from jj.1.below (Below.refl _ _).drew)
      have AC := Lib.hid (show Below w.heap.size w (World.drew _) from bb.drew)
      clear pp jj bb KR IM hnS hcl hS0
      go_wp2_with (fail)
      go_region_with (first
        | (go_at_call 13; (with_reducible refine (T.out _ (G.out.below AC.out)).mono ?_); rintro e wn ⟨v3, rfl, ho, hb⟩; have K1 := Lib.hid (ho.pts hm2); replace J1 := Lib.hid (J1.out.below hb); replace N0 := Lib.hid (N0.out.below hb); replace AC := Lib.hid (Below.next AC.out hb); clear ho hb; obtain ⟨n0, n1, n2⟩ := N0.out)
        | (go_at_call 16; (with_reducible refine (EQ.out _ _ _ J1.out K1.out).mono ?_); rintro e wo ⟨rfl, hb⟩; replace AC := Lib.hid (Below.next AC.out hb); clear hb))
      all_goals
        go_wp2
        go_ret
        exact ⟨rfl, AC.out⟩
end Go.Proofs.Ythccbipjmheoaaa
