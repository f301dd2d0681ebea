/- The law of ReverseChannel. -/
import Derived.Test.YtcoldhdghcdaeaaRevI
import Derived.Test.YtcoldhdghcdaeaaRevS
import Derived.Test.YtcoldhdghcdaeaaChnA
import Derived.Deep.RegionWith
import Derived.Deep.CutRange
namespace Go.Proofs.Ytcoldhdghcdaeaa
open Go.ChangeShapes Go.WideShapes Go.ChangeAt Go.RowKit Pm

def RevR (S : ByteArray) (L : Pts) (Z C : Int) (w : World) (e : Ending) (w' : World) : Prop := ∃ v, e = .returned (.tuple #[.agg #[.string S, v, .int .i64 Z], .int .i64 C]) ∧ OwnPt w' w.heap.size v L ∧ Below w.heap.size w w'
theorem RevRet.to {s : ByteArray} {ps : Pts} {z : Int} {w w' : World} {e : Ending} (h : RevRet s ps z w e w') : RevR (if okC s ps z then s else ⟨#[]⟩) (if okC s ps z then ps.reverse else []) (if okC s ps z then z else 0) (if okC s ps z then 0 else 1) w e w' := by
  obtain ⟨v, s', z', c, rfl, ho, rfl, rfl, rfl, hb⟩ := h
  exact ⟨v, rfl, ho, hb⟩
theorem ChnAt.only {v x : Value} {w w' : World} {b : Nat} {s : ByteArray} {z : Int} (h : OnlyP v w w') (hv : v.ownBlock ≠ some b) (hc : ChnAt w b s x z) : ChnAt w' b s x z :=
  ⟨h.cell hv hc.1, h.cell hv hc.2.1, h.cell hv hc.2.2⟩
theorem ne_block {v : Value} {B b : Nat} (h : ∀ g, v.ownBlock = some g → g < B) (hb : B ≤ b) : v.ownBlock ≠ some b := fun e => by have := h b e; omega
set_option maxRecDepth 100000 in
set_option maxHeartbeats 8000000 in
theorem reversechannel_law (gv : Value) (c : Chn) (w : World) (h : ArgChn w gv c) :
    Calls Try.prog 10 #[.agg #[.string c.name, gv, .int .i64 c.width]] w fun e w' => e = .returned (.bool true) ∧ Below w.heap.size w w' := by
  obtain ⟨s, ps, z⟩ := c
  obtain ⟨⟨a, k, rfl, hp⟩, hl, hn, hz⟩ := h
  simp only at hp hl hn hz ⊢
  have G := Lib.hid hp
  have SZ := Lib.hid (fun w' => szchn_any s z a ps.length k 1048576 w' hn hl (by omega) (by omega))
  clear hp hl
  go_enter Try.func10, Try.ntmps10
  go_wp2_with (go_at_call 11; (refine (SZ.out _).mono ?_); rintro e w1 ⟨r, hr, rfl, hb⟩; refine Hid.out ?_)
  refine Lib.hid ?_
  have XA := Lib.hid (show ChnAt w1 w.heap.size s (.slice a ps.length k) z from (ChnAt.new (w := w) s (.slice a ps.length k) z _ rfl).below hb)
  have AC := Lib.hid (Below.next (a := w) (by go_grown) hb)
  clear hb SZ
  rcases hr with rfl | ⟨r0, r1, hs, hm⟩
  · go_wp2
    go_ret
    exact ⟨rfl, AC.out⟩
  · have nr : ¬ r < 0 := by omega
    have hm2 : ps.length ≤ 1048576 := by omega
    have TC := Lib.hid (fun w' h => tochn_any s z a ps.length k ps w' h hm2)
    have RS := Lib.hid (fun w' v h => (srevchn_any s z v ps w' hn hm2 h).mono fun _ _ h => h.to)
    have RI := Lib.hid (fun w' v h => (revchn_any s z v ps w' hn hm2 h).mono fun _ _ h => h.to)
    have EQ := Lib.hid (fun w' v1 v2 h1 h2 => eqchn_same s z ps v1 v2 w' hm2 h1 h2)
    have hL2 : (if okC s ps z then ps.reverse else []).length ≤ 1048576 := by split <;> simp <;> omega
    obtain ⟨S, hS⟩ : ∃ S, S = (if okC s ps z then s else ⟨#[]⟩) := ⟨_, rfl⟩
    obtain ⟨L, hL⟩ : ∃ L, L = (if okC s ps z then ps.reverse else []) := ⟨_, rfl⟩
    obtain ⟨Z, hZ⟩ : ∃ Z : Int, Z = (if okC s ps z then z else 0) := ⟨_, rfl⟩
    obtain ⟨C, hC⟩ : ∃ C : Int, C = (if okC s ps z then 0 else 1) := ⟨_, rfl⟩
    rw [← hS, ← hL, ← hZ, ← hC] at RS RI
    rw [← hL] at hL2
    have EL := Lib.hid (fun w' v1 v2 h1 h2 => eqchn_same S Z L v1 v2 w' hL2 h1 h2)
    clear hS hL hZ hC r0 r1 hs hm
    obtain ⟨x0, x1, x2⟩ := XA.out
    go_wp2_with (go_at_call 13; (with_reducible refine (TC.out _ (G.out.below AC.out)).mono ?_); rintro e w2 ⟨v1, rfl, ho, hb⟩; refine Hid.out ?_)
    refine Lib.hid ?_
    have I1 := Lib.hid (ho.pts hm2)
    have XA := Lib.hid (XA.out.below hb)
    have AC := Lib.hid (Below.next AC.out hb)
    clear hb ho x0 x1 x2 nr
    go_wp2_with (go_at_call 33; (with_reducible refine (RS.out _ _ I1.out).mono ?_); rintro e w3 ⟨va, rfl, ho, hb⟩; refine Hid.out ?_)
    refine Lib.hid ?_
    have O1 := Lib.hid (ho.pts hL2)
    have XA := Lib.hid (XA.out.below hb)
    have AC := Lib.hid (Below.next AC.out hb)
    obtain ⟨aa, ca, rfl⟩ := ho.form
    clear ho hb I1
    obtain ⟨wb, hwb⟩ : ∃ wb, wb = w3.alloc (.cells #[.string S, .slice aa L.length ca, .int .i64 Z] 29) := ⟨_, rfl⟩
    have ab : Below w3.heap.size w3 wb := hwb ▸ (Below.refl _ _).alloc (Nat.le_refl _) _
    have N4 := Lib.hid (show ChnAt wb w3.heap.size S (.slice aa L.length ca) Z from hwb ▸ ChnAt.new S _ Z _ rfl)
    have XA := Lib.hid (XA.out.below ab)
    have O1 := Lib.hid (O1.out.below ab)
    have AC := Lib.hid (Below.next AC.out ab)
    clear ab
    obtain ⟨x0, x1, x2⟩ : ChnAt (w3.alloc (.cells #[.string S, .slice aa L.length ca, .int .i64 Z] 29)) w.heap.size s (.slice a ps.length k) z := hwb ▸ XA.out
    go_wp2_with (go_at_call 13; rw [← hwb]; (with_reducible refine (TC.out _ (G.out.below AC.out)).mono ?_); rintro e w4 ⟨vx, rfl, ho, hb⟩; refine Hid.out ?_)
    clear x0 x1 x2 hwb
    refine Lib.hid ?_
    have OX := Lib.hid ho
    have BC := Lib.hid hb
    obtain ⟨xa, xc, rfl⟩ := ho.form
    have BKX := Lib.hid (OwnPt.block ho)
    have h64 : wb.heap.size ≤ w4.heap.size := hb.size
    clear ho hb
    have hP4b : w3.heap.size < wb.heap.size := World.block_lt_of_cell? _ _ N4.out.1
    obtain ⟨W6, hW6⟩ : ∃ W6, W6 = w4.alloc (.cells #[.string s, .slice xa ps.length xc, .int .i64 z] 29) := ⟨_, rfl⟩
    have ab : Below w4.heap.size w4 W6 := hW6 ▸ (Below.refl _ _).alloc (Nat.le_refl _) _
    have N6 := Lib.hid (show ChnAt W6 w4.heap.size s (.slice xa ps.length xc) z from by rw [hW6]; exact ChnAt.new s _ z _ rfl)
    have OX := Lib.hid (OX.out.below ab)
    have BC := Lib.hid (Below.next BC.out ab)
    have BKX := Lib.hid (show ∀ g, (Value.slice xa ps.length xc).ownBlock = some g → g < w4.heap.size from fun g hg => (BKX.out g hg).2)
    have s6 : W6.heap.size = w4.heap.size + 1 := by rw [hW6]; simp
    clear ab
    obtain ⟨x0, x1, x2⟩ : ChnAt (w4.alloc (.cells #[.string s, .slice xa ps.length xc, .int .i64 z] 29)) w4.heap.size s (.slice xa ps.length xc) z := ChnAt.new s _ z _ rfl
    go_wp2_with (go_at_call 34; rw [← hW6]; (with_reducible refine (RI.out _ _ (OX.out.pts hm2)).mono ?_); rintro e w5 ⟨vg, rfl, ho, hb⟩; refine Hid.out ?_)
    clear x0 x1 x2 hW6
    refine Lib.hid ?_
    have O2 := Lib.hid ho
    obtain ⟨ga, gc, rfl⟩ := ho.form
    have BKG := Lib.hid (OwnPt.block ho)
    have N6 := Lib.hid (N6.out.below hb)
    have OX := Lib.hid (OX.out.below hb)
    have BC := Lib.hid (Below.next BC.out hb)
    have s65 : W6.heap.size ≤ w5.heap.size := hb.size
    clear ho hb
    obtain ⟨W7, hW7⟩ : ∃ W7, W7 = w5.alloc (.cells #[.string S, .slice ga L.length gc, .int .i64 Z] 29) := ⟨_, rfl⟩
    have ab : Below w5.heap.size w5 W7 := hW7 ▸ (Below.refl _ _).alloc (Nat.le_refl _) _
    have N7 := Lib.hid (show ChnAt W7 w5.heap.size S (.slice ga L.length gc) Z from by rw [hW7]; exact ChnAt.new S _ Z _ rfl)
    have N6 := Lib.hid (N6.out.below ab)
    have OX := Lib.hid (OX.out.below ab)
    have O2 := Lib.hid (O2.out.below ab)
    have BC := Lib.hid (Below.next BC.out ab)
    have BKG := Lib.hid (show ∀ g, (Value.slice ga L.length gc).ownBlock = some g → g < w5.heap.size from fun g hg => (BKG.out g hg).2)
    have h7 : w5.heap.size < W7.heap.size := World.block_lt_of_cell? _ _ N7.out.1
    have h67 : W6.heap.size ≤ w5.heap.size := by omega
    have s67 : W6.heap.size ≤ W7.heap.size := by omega
    clear ab
    obtain ⟨x0, x1, x2⟩ : ChnAt (w5.alloc (.cells #[.string S, .slice ga L.length gc, .int .i64 Z] 29)) w5.heap.size S (.slice ga L.length gc) Z := ChnAt.new S _ Z _ rfl
    obtain ⟨y0, y1, y2⟩ : ChnAt (w5.alloc (.cells #[.string S, .slice ga L.length gc, .int .i64 Z] 29)) w3.heap.size S (.slice aa L.length ca) Z := hW7 ▸ N4.out.below BC.out
    go_wp2_with (go_at_call 15; rw [← hW7]; (with_reducible refine (EL.out _ _ _ (O2.out.pts hL2) (O1.out.below BC.out)).mono ?_); rintro e w6 ⟨rfl, hb⟩; refine Hid.out ?_)
    clear x0 x1 x2 y0 y1 y2 hW7
    refine Lib.hid ?_
    have N6 := Lib.hid (show ChnAt w6.drew _ _ _ _ from N6.out.below hb.drew)
    have N7 := Lib.hid (show ChnAt w6.drew _ _ _ _ from N7.out.below hb.drew)
    have OX := Lib.hid (show OwnPt w6.drew _ _ _ from OX.out.below hb.drew)
    have O2 := Lib.hid (show OwnPt w6.drew _ _ _ from O2.out.below hb.drew)
    have BC := Lib.hid (show Below wb.heap.size wb w6.drew from Below.next BC.out hb.drew)
    have AC2 := Lib.hid (Below.next AC.out BC.out)
    have hszc : W6.heap.size ≤ w6.drew.heap.size := Nat.le_trans s67 hb.size
    clear hb
    obtain ⟨x0, x1, x2⟩ := (show ChnAt w6 _ _ _ _ from N6.out)
    have XA6 := XA.out.below BC.out
    obtain ⟨y0, y1, y2⟩ := (show ChnAt w6 w.heap.size s (.slice a ps.length k) z from XA6)
    clear XA6
    go_wp2_with (fail)
    go_cut [45] from 41 to 44 (fun c wx => c = .bool false ∧ ChnAt wx w4.heap.size s (.slice xa ps.length xc) z ∧ OwnPt wx wb.heap.size (.slice xa ps.length xc) ps ∧ ChnAt wx w5.heap.size S (.slice ga L.length gc) Z ∧ OwnPt wx W6.heap.size (.slice ga L.length gc) L ∧ Below wb.heap.size wb wx ∧ W6.heap.size ≤ wx.heap.size)
    case first =>
      go_region_with (first
        | (go_at_call 13; (with_reducible refine (TC.out _ (G.out.below AC2.out)).mono ?_); rintro e wn ⟨v3, rfl, ho, hb⟩; have J1 := Lib.hid (ho.pts hm2); replace OX := Lib.hid (OX.out.below hb); replace N6 := Lib.hid (N6.out.below hb); replace O2 := Lib.hid (O2.out.below hb); replace N7 := Lib.hid (N7.out.below hb); replace BC := Lib.hid (Below.next BC.out hb); replace hszc := Nat.le_trans hszc hb.size; clear ho hb; obtain ⟨x0, x1, x2⟩ := N6.out)
        | (go_at_call 15; (with_reducible refine (EQ.out _ _ _ (OX.out.pts hm2) J1.out).mono ?_); rintro e wo ⟨rfl, hb⟩; replace OX := Lib.hid (OX.out.below hb); replace N6 := Lib.hid (N6.out.below hb); replace O2 := Lib.hid (O2.out.below hb); replace N7 := Lib.hid (N7.out.below hb); replace BC := Lib.hid (Below.next BC.out hb); replace hszc := Nat.le_trans hszc hb.size; clear hb))
      all_goals
        go_wp2_with (fail)
        go_meet
        exact ⟨by first | rfl | simp, N6.out, OX.out, N7.out, O2.out, BC.out, hszc⟩
    case rest =>
      clear N6 N7 OX O2 BC AC2 hszc x0 x1 x2 y0 y1 y2
      obtain ⟨rfl, nn6, oox, nn7, oo2, bbc, hszc⟩ := hcut
      have N6 := Lib.hid nn6
      have OX := Lib.hid oox
      have N7 := Lib.hid nn7
      have O2 := Lib.hid oo2
      have BC := Lib.hid bbc
      clear nn6 oox nn7 oo2 bbc
      obtain ⟨x0, x1, x2⟩ := N6.out
      have hpos : ¬ (1 + 2 * (ps.length : Int)) < 0 := by omega
      have hposL : ¬ (1 + 2 * (L.length : Int)) < 0 := by omega
      go_wp2_with (go_at_call 35; (with_reducible refine (markchn_any s z _ ps wb.heap.size _ BC.out.size hm2 OX.out).mono ?_); rintro e w8 ⟨rfl, ho, hb, hon⟩; refine Hid.out ?_)
      clear x0 x1 x2
      refine Lib.hid ?_
      have N7 := Lib.hid (N7.out.only hon (ne_block BKX.out (by omega)))
      have O2 := Lib.hid (hon.own (fun g hg => by have := BKX.out g hg; omega) O2.out)
      have BC := Lib.hid (BC.out.trans hb)
      have hszc := Nat.le_trans hszc hon.1
      clear ho hb hon OX N6
      obtain ⟨x0, x1, x2⟩ := N7.out
      obtain ⟨y0, y1, y2⟩ := N4.out.below BC.out
      go_wp2_with (go_at_call 15; (with_reducible refine (EL.out _ _ _ (O2.out.pts hL2) (O1.out.below BC.out)).mono ?_); rintro e w9 ⟨rfl, hb⟩; refine Hid.out ?_)
      clear x0 x1 x2 y0 y1 y2
      refine Lib.hid ?_
      have N7 := Lib.hid (N7.out.below hb)
      have O2 := Lib.hid (O2.out.below hb)
      have BC := Lib.hid (Below.next BC.out hb)
      have hszc := Nat.le_trans hszc hb.size
      clear hb
      obtain ⟨x0, x1, x2⟩ := N7.out
      go_wp2_with (go_at_call 35; (with_reducible refine (markchn_any S Z _ L W6.heap.size _ hszc hL2 O2.out).mono ?_); rintro e w10 ⟨rfl, ho, hb, hon⟩; refine Hid.out ?_)
      clear x0 x1 x2
      refine Lib.hid ?_
      have N7 := Lib.hid (N7.out.only hon (ne_block BKG.out (Nat.le_refl _)))
      have O4 := Lib.hid ho
      have BC := Lib.hid (BC.out.trans (hb.mono (by omega)))
      clear ho hb hon O2
      obtain ⟨x0, x1, x2⟩ := N7.out
      go_wp2_with (go_at_call 36; (with_reducible refine (heldchn_any S Z _ L.length W6.heap.size _ hL2 O4.out).mono ?_); rintro e w11 ⟨rfl, hb⟩; refine Hid.out ?_)
      clear x0 x1 x2
      refine Lib.hid ?_
      have N7 := Lib.hid (N7.out.below hb)
      have O4 := Lib.hid (O4.out.below hb)
      have BC := Lib.hid (Below.next BC.out hb)
      clear hb
      obtain ⟨x0, x1, x2⟩ := XA.out.below BC.out
      go_wp2_with (go_at_call 13; (with_reducible refine (TC.out _ (G.out.below (Below.next AC.out BC.out))).mono ?_); rintro e w12 ⟨v5, rfl, ho, hb⟩; refine Hid.out ?_)
      clear x0 x1 x2
      refine Lib.hid ?_
      have J5 := Lib.hid (ho.pts hm2)
      have N7 := Lib.hid (N7.out.below hb)
      have O4 := Lib.hid (O4.out.below hb)
      have BC := Lib.hid (Below.next BC.out hb)
      clear ho hb
      go_wp2_with (go_at_call 34; (with_reducible refine (RI.out _ _ J5.out).mono ?_); rintro e w13 ⟨vh, rfl, ho, hb⟩; refine Hid.out ?_)
      refine Lib.hid ?_
      have J6 := Lib.hid (ho.pts hL2)
      obtain ⟨ha, hc, rfl⟩ := ho.form
      have N7 := Lib.hid (N7.out.below hb)
      have O4 := Lib.hid (O4.out.below hb)
      have BC := Lib.hid (Below.next BC.out hb)
      clear ho hb J5
      have ab := (Below.refl w13.heap.size w13).alloc (Nat.le_refl _) (.cells #[.string S, .slice ha L.length hc, .int .i64 Z] 29)
      have N7 := Lib.hid (N7.out.below ab)
      have O4 := Lib.hid (O4.out.below ab)
      have J6 := Lib.hid (J6.out.below ab)
      have BC := Lib.hid (Below.next BC.out ab)
      clear ab
      obtain ⟨x0, x1, x2⟩ : ChnAt (w13.alloc (.cells #[.string S, .slice ha L.length hc, .int .i64 Z] 29)) w13.heap.size S (.slice ha L.length hc) Z := ChnAt.new S _ Z _ rfl
      obtain ⟨y0, y1, y2⟩ := N4.out.below BC.out
      go_wp2_with (go_at_call 15; (with_reducible refine (EL.out _ _ _ J6.out (O1.out.below BC.out)).mono ?_); rintro e w14 ⟨rfl, hb⟩; refine Hid.out ?_)
      clear x0 x1 x2 y0 y1 y2
      refine Lib.hid ?_
      have N7 := Lib.hid (N7.out.below hb)
      have O4 := Lib.hid (O4.out.below hb)
      have BC := Lib.hid (Below.next BC.out hb)
      clear hb J6
      obtain ⟨x0, x1, x2⟩ := N7.out
      go_wp2_with (go_at_call 36; (with_reducible refine (heldchn_any S Z _ L.length W6.heap.size _ hL2 O4.out).mono ?_); rintro e w15 ⟨rfl, hb⟩; refine Hid.out ?_)
      refine Lib.hid ?_
      have BC := Lib.hid (Below.next BC.out hb)
      clear hb x0 x1 x2
      go_wp2_with (fail)
      go_ret
      exact ⟨rfl, Below.next AC.out BC.out⟩
end Go.Proofs.Ytcoldhdghcdaeaa
