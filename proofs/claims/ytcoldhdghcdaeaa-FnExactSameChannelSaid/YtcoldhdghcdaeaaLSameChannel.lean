/- The law of SameChannel. -/
import Derived.Test.YtcoldhdghcdaeaaChnS
import Derived.Test.YtcoldhdghcdaeaaChnA
import Derived.Deep.RegionWith
import Derived.Deep.CutRange
namespace Go.Proofs.Ytcoldhdghcdaeaa
open Go.ChangeShapes Go.WideShapes Go.ChangeAt Go.RowKit Pm

set_option maxRecDepth 100000 in
set_option maxHeartbeats 8000000 in
theorem samechannel_law (gv0 gv1 : Value) (c0 c1 : Chn) (w : World) (h0 : ArgChn w gv0 c0) (h1 : ArgChn w gv1 c1) :
    Calls Try.prog 4 #[.agg #[.string c0.name, gv0, .int .i64 c0.width], .agg #[.string c1.name, gv1, .int .i64 c1.width]] w fun e w' => e = .returned (.bool true) ∧ Below w.heap.size w w' := by
  obtain ⟨s1, ps, z1⟩ := c0
  obtain ⟨s2, qs, z2⟩ := c1
  obtain ⟨⟨a1, k1, rfl, hp1⟩, hl1, hn1, hz1⟩ := h0
  obtain ⟨⟨a2, k2, rfl, hp2⟩, hl2, hn2, hz2⟩ := h1
  simp only at hp1 hl1 hn1 hz1 hp2 hl2 hn2 hz2 ⊢
  have A1 := Lib.hid hp1
  have A2 := Lib.hid hp2
  have SZ1 := Lib.hid (fun w' => szchn_any s1 z1 a1 ps.length k1 1048576 w' hn1 hl1 (by omega) (by omega))
  have SZ2 := Lib.hid (fun (l : Int) (h0 : 0 ≤ l) (h1 : l ≤ 1048576) w' => szchn_any s2 z2 a2 qs.length k2 l w' hn2 hl2 h0 h1)
  clear hp1 hl1 hp2 hl2 hn1 hn2
  go_enter Try.func4, Try.ntmps4
  go_wp2_with (go_at_call 11; (with_reducible refine (SZ1.out _).mono ?_); rintro e w1 ⟨r, hr, rfl, hb⟩; refine Hid.out ?_)
  refine Lib.hid ?_
  have XA := Lib.hid (show ChnAt w1 w.heap.size s1 (.slice a1 ps.length k1) z1 from ((ChnAt.new (w := w) s1 _ z1 _ rfl).below ((Below.refl _ _).alloc (Nat.le_refl _) _)).below hb)
  have XB := Lib.hid (show ChnAt w1 (w.heap.size + 1) s2 (.slice a2 qs.length k2) z2 from (ChnAt.new s2 _ z2 _ (by simp)).below hb)
  have AC := Lib.hid (Below.next (a := w) (by go_grown) hb)
  clear hb SZ1
  rcases hr with rfl | ⟨r0, r1, hs1, hm1⟩
  · clear SZ2
    go_wp2
    go_ret
    exact ⟨rfl, AC.out⟩
  · have nr : ¬ r < 0 := by omega
    have hm : ps.length ≤ 1048576 := by omega
    have SZ2 := Lib.hid (SZ2.out r r0 (by omega))
    clear hs1 hm1
    obtain ⟨x0, x1, x2⟩ := XB.out
    go_wp2_with (go_at_call 11; (with_reducible refine (SZ2.out _).mono ?_); rintro e w2 ⟨r2, hr2, rfl, hb⟩; refine Hid.out ?_)
    refine Lib.hid ?_
    have XA := Lib.hid (show ChnAt w2.drew _ _ _ _ from XA.out.below hb.drew)
    have XB := Lib.hid (show ChnAt w2.drew _ _ _ _ from XB.out.below hb.drew)
    have ACE := Lib.hid (Below.next AC.out hb)
    have AC := Lib.hid (show Below w.heap.size w w2.drew from Below.next AC.out hb.drew)
    clear hb x0 x1 x2 SZ2
    rcases hr2 with rfl | ⟨q0, q1, hs2, hm2'⟩
    · clear nr
      go_wp2
      go_ret
      exact ⟨rfl, ACE.out⟩
    · have nr2 : ¬ r2 < 0 := by omega
      have hm2 : qs.length ≤ 1048576 := by omega
      have T1 := Lib.hid (fun w' h => tochn_any s1 z1 a1 ps.length k1 ps w' h hm)
      have T2 := Lib.hid (fun w' h => tochn_any s2 z2 a2 qs.length k2 qs w' h hm2)
      have SS := Lib.hid (fun w' v1 v2 h1 h2 => ssamechn_any s1 s2 z1 z2 v1 v2 ps qs w' hm h1 h2)
      have SI := Lib.hid (fun w' v1 v2 h1 h2 => samechn_any s1 s2 z1 z2 v1 v2 ps qs w' hm h1 h2)
      have E1 := Lib.hid (fun w' v1 v2 h1 h2 => eqchn_same s1 z1 ps v1 v2 w' hm h1 h2)
      have E2 := Lib.hid (fun w' v1 v2 h1 h2 => eqchn_same s2 z2 qs v1 v2 w' hm2 h1 h2)
      obtain ⟨B, hB⟩ : ∃ B, B = sameC s1 s2 z1 z2 ps qs := ⟨_, rfl⟩
      rw [← hB] at SS SI
      clear hB hs2 hm2' q0 q1 r0 r1 nr
      obtain ⟨x0, x1, x2⟩ := (show ChnAt w2 _ _ _ _ from XA.out)
      obtain ⟨y0, y1, y2⟩ := (show ChnAt w2 _ _ _ _ from XB.out)
      go_wp2_with (fail)
      go_cut [6] from 20 to 24 (fun r wx => r = .bool B ∧ ChnAt wx w.heap.size s1 (.slice a1 ps.length k1) z1 ∧ ChnAt wx (w.heap.size + 1) s2 (.slice a2 qs.length k2) z2 ∧ Below w.heap.size w wx)
      case first =>
        go_region_with (first
          | (go_at_call 13; (with_reducible refine (T1.out _ (A1.out.below AC.out)).mono ?_); rintro e wn ⟨va, rfl, ho, hb⟩; (try replace I2 := Lib.hid (PtsL.below I2.out hb)); have I1 := Lib.hid (ho.pts hm); replace XA := Lib.hid (XA.out.below hb); replace XB := Lib.hid (XB.out.below hb); replace AC := Lib.hid (Below.next AC.out hb); clear ho hb; obtain ⟨x0, x1, x2⟩ := XA.out; obtain ⟨y0, y1, y2⟩ := XB.out)
          | (go_at_call 13; (with_reducible refine (T2.out _ (A2.out.below AC.out)).mono ?_); rintro e wm ⟨vb, rfl, ho, hb⟩; (try replace I1 := Lib.hid (PtsL.below I1.out hb)); have I2 := Lib.hid (ho.pts hm2); replace XA := Lib.hid (XA.out.below hb); replace XB := Lib.hid (XB.out.below hb); replace AC := Lib.hid (Below.next AC.out hb); clear ho hb; obtain ⟨x0, x1, x2⟩ := XA.out; obtain ⟨y0, y1, y2⟩ := XB.out)
          | (go_at_call 16; (with_reducible refine (SS.out _ _ _ I1.out I2.out).mono ?_); rintro e wo ⟨rfl, hb⟩; replace XA := Lib.hid (XA.out.below hb); replace XB := Lib.hid (XB.out.below hb); replace AC := Lib.hid (Below.next AC.out hb); clear hb))
        all_goals
          go_wp2_with (fail)
          go_meet
          exact ⟨rfl, XA.out, XB.out, AC.out⟩
      case rest =>
        clear XA XB AC x0 x1 x2 y0 y1 y2
        obtain ⟨rfl, xa, xb, ac⟩ := hcut
        have XA := Lib.hid xa
        have XB := Lib.hid xb
        have AC := Lib.hid ac
        clear xa xb ac
        obtain ⟨x0, x1, x2⟩ := XA.out
        go_wp2_with (go_at_call 13; (with_reducible refine (T1.out _ (A1.out.below AC.out)).mono ?_); rintro e wd ⟨va, rfl, ho, hb⟩; refine Hid.out ?_)
        refine Lib.hid ?_
        have I1 := Lib.hid (ho.pts hm)
        have XA := Lib.hid (XA.out.below hb)
        have XB := Lib.hid (XB.out.below hb)
        have AC := Lib.hid (Below.next AC.out hb)
        obtain ⟨da, dn, rfl⟩ := ho.form
        clear ho hb x0 x1 x2
        have hsz := AC.out.size
        have N0 := Lib.hid (ChnAt.new (w := wd) (T := 29) s1 (.slice da ps.length dn) z1 wd.heap.size rfl)
        have ab := (Below.refl wd.heap.size wd).alloc (Nat.le_refl _) (.cells #[.string s1, .slice da ps.length dn, .int .i64 z1] 29)
        have XA := Lib.hid (XA.out.below ab)
        have XB := Lib.hid (XB.out.below ab)
        have I1 := Lib.hid (I1.out.below ab)
        have AC := Lib.hid (Below.next AC.out ab)
        clear ab
        obtain ⟨x0, x1, x2⟩ := XB.out
        go_wp2_with (go_at_call 13; (with_reducible refine (T2.out _ (A2.out.below AC.out)).mono ?_); rintro e we ⟨vb, rfl, ho, hb⟩; refine Hid.out ?_)
        refine Lib.hid ?_
        have I2 := Lib.hid (ho.pts hm2)
        have I1 := Lib.hid (I1.out.below hb)
        have XA := Lib.hid (XA.out.below hb)
        have XB := Lib.hid (XB.out.below hb)
        have N0 := Lib.hid (N0.out.below hb)
        have AC := Lib.hid (Below.next AC.out hb)
        obtain ⟨ea, en, rfl⟩ := ho.form
        clear ho hb x0 x1 x2
        have N1 := Lib.hid (ChnAt.new (w := we) (T := 29) s2 (.slice ea qs.length en) z2 we.heap.size rfl)
        have ab := (Below.refl we.heap.size we).alloc (Nat.le_refl _) (.cells #[.string s2, .slice ea qs.length en, .int .i64 z2] 29)
        have XA := Lib.hid (XA.out.below ab)
        have XB := Lib.hid (XB.out.below ab)
        have N0 := Lib.hid (N0.out.below ab)
        have I1 := Lib.hid (I1.out.below ab)
        have I2 := Lib.hid (I2.out.below ab)
        have AC := Lib.hid (Below.next AC.out ab)
        clear ab
        obtain ⟨x0, x1, x2⟩ := N0.out
        obtain ⟨y0, y1, y2⟩ := N1.out
        go_wp2_with (go_at_call 17; (with_reducible refine (SI.out _ _ _ I1.out I2.out).mono ?_); rintro e wf ⟨rfl, hb⟩; refine Hid.out ?_)
        refine Lib.hid ?_
        have I1 := Lib.hid (show PtsL wf.drew _ _ from I1.out.below hb.drew)
        have I2 := Lib.hid (show PtsL wf.drew _ _ from I2.out.below hb.drew)
        have XA := Lib.hid (show ChnAt wf.drew _ _ _ _ from XA.out.below hb.drew)
        have XB := Lib.hid (show ChnAt wf.drew _ _ _ _ from XB.out.below hb.drew)
        have N0 := Lib.hid (show ChnAt wf.drew _ _ _ _ from N0.out.below hb.drew)
        have N1 := Lib.hid (show ChnAt wf.drew _ _ _ _ from N1.out.below hb.drew)
        have AC := Lib.hid (show Below w.heap.size w wf.drew from Below.next AC.out hb.drew)
        clear hb x0 x1 x2 y0 y1 y2
        obtain ⟨x0, x1, x2⟩ := (show ChnAt wf _ _ _ _ from N0.out)
        obtain ⟨y0, y1, y2⟩ := (show ChnAt wf _ _ _ _ from XA.out)
        go_wp2_with (fail)
        go_cut [39] from 35 to 38 (fun c wx => c = .bool false ∧ ChnAt wx (w.heap.size + 1) s2 (.slice a2 qs.length k2) z2 ∧ ChnAt wx we.heap.size s2 (.slice ea qs.length en) z2 ∧ PtsL wx (.slice ea qs.length en) qs ∧ Below w.heap.size w wx)
        case first =>
          go_region_with (first
            | (go_at_call 13; (with_reducible refine (T1.out _ (A1.out.below AC.out)).mono ?_); rintro e wn ⟨vn, rfl, ho, hb⟩; have J1 := Lib.hid (ho.pts hm); replace I1 := Lib.hid (I1.out.below hb); replace I2 := Lib.hid (I2.out.below hb); replace N0 := Lib.hid (N0.out.below hb); replace N1 := Lib.hid (N1.out.below hb); replace XB := Lib.hid (XB.out.below hb); replace AC := Lib.hid (Below.next AC.out hb); clear ho hb; obtain ⟨x0, x1, x2⟩ := N0.out)
            | (go_at_call 15; (with_reducible refine (E1.out _ _ _ I1.out J1.out).mono ?_); rintro e wo ⟨rfl, hb⟩; replace I2 := Lib.hid (I2.out.below hb); replace N1 := Lib.hid (N1.out.below hb); replace XB := Lib.hid (XB.out.below hb); replace AC := Lib.hid (Below.next AC.out hb); clear hb))
          all_goals
            go_wp2_with (fail)
            go_meet
            exact ⟨by first | rfl | simp, XB.out, N1.out, I2.out, AC.out⟩
        case rest =>
          clear XA XB N0 N1 I1 I2 AC x0 x1 x2 y0 y1 y2
          obtain ⟨rfl, xb, nn1, i2, ac⟩ := hcut
          have I2 := Lib.hid (show PtsL wc.drew _ _ from i2.below (Below.refl _ _).drew)
          have N1 := Lib.hid (show ChnAt wc.drew _ _ _ _ from nn1)
          have AC := Lib.hid (show Below w.heap.size w wc.drew from ac.drew)
          obtain ⟨x0, x1, x2⟩ := nn1
          obtain ⟨y0, y1, y2⟩ := xb
          clear i2 ac
          go_wp2_with (fail)
          go_region_with (first
            | (go_at_call 13; (with_reducible refine (T2.out _ (A2.out.below AC.out)).mono ?_); rintro e wn ⟨vn, rfl, ho, hb⟩; have J2 := Lib.hid (ho.pts hm2); replace I2 := Lib.hid (I2.out.below hb); replace N1 := Lib.hid (N1.out.below hb); replace AC := Lib.hid (Below.next AC.out hb); clear ho hb; obtain ⟨x0, x1, x2⟩ := N1.out)
            | (go_at_call 15; (with_reducible refine (E2.out _ _ _ I2.out J2.out).mono ?_); rintro e wo ⟨rfl, hb⟩; replace AC := Lib.hid (Below.next AC.out hb); clear hb))
          all_goals
            go_wp2
            go_ret
            exact ⟨rfl, AC.out⟩
end Go.Proofs.Ytcoldhdghcdaeaa
