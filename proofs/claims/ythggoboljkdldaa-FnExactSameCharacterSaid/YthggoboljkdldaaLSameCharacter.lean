/- The law of SameCharacter. -/
import Derived.Test.YthggoboljkdldaaChrQ
import Derived.Test.YthggoboljkdldaaChrL
import Derived.Test.YthggoboljkdldaaChrA
import Derived.Deep.RegionWith
import Derived.Deep.CutRange
namespace Go.Proofs.Ythggoboljkdldaa
open Go.ChangeShapes Go.WideShapes Go.ChangeAt Go.RowKit Pm

/-- A boxed character. -/
def BoxAt (w : World) (b : Nat) (k : Int) (gv : Value) (s t : ByteArray) (p : Int) : Prop :=
  w.cell? ⟨b, 0, none⟩ = some (.int .i64 k) ∧ w.cell? ⟨b, 1, none⟩ = some gv ∧ w.cell? ⟨b, 2, none⟩ = some (.string s) ∧ w.cell? ⟨b, 3, none⟩ = some (.string t) ∧ w.cell? ⟨b, 4, none⟩ = some (.int .i64 p)
theorem BoxAt.below {w w' : World} {b : Nat} {k p : Int} {gv : Value} {s t : ByteArray} (h : BoxAt w b k gv s t p) (hb : Below w.heap.size w w') : BoxAt w' b k gv s t p :=
  ⟨cell_below h.1 hb, cell_below h.2.1 hb, cell_below h.2.2.1 hb, cell_below h.2.2.2.1 hb, cell_below h.2.2.2.2 hb⟩
theorem BoxAt.new {w : World} {T : TypeId} (k p : Int) (gv : Value) (s t : ByteArray) (n : Nat) (hn : w.heap.size = n) : BoxAt (w.alloc (.cells #[.int .i64 k, gv, .string s, .string t, .int .i64 p] T)) n k gv s t p := by
  subst hn
  exact ⟨by simp, by simp, by simp, by simp, by simp⟩
set_option maxRecDepth 100000 in
set_option maxHeartbeats 4000000 in
theorem samechr_law2 (k1 k2 p1 p2 : Int) (g1 g2 : List Int) (s1 s2 t1 t2 : ByteArray) (v1 v2 : Value) (w : World) (h1 : ArgInts .i64 w v1 g1) (h2 : ArgInts .i64 w v2 g2)
    (lg1 : g1.length ≤ maxLen) (ls1 : s1.size ≤ maxLen) (lt1 : t1.size ≤ maxLen) (lg2 : g2.length ≤ maxLen) (ls2 : s2.size ≤ maxLen) (lt2 : t2.size ≤ maxLen) :
    Calls Try.prog 3 #[.agg #[.int .i64 k1, v1, .string s1, .string t1, .int .i64 p1], .agg #[.int .i64 k2, v2, .string s2, .string t2, .int .i64 p2]] w fun e w' => e = .returned (.bool true) ∧ Below w.heap.size w w' := by
  have A1 := Lib.hid h1
  have A2 := Lib.hid h2
  have SZ1 := fun (w : World) (a : Option Addr) (c : Nat) => szchr_any k1 p1 g1 s1 t1 a c 1048576 w (by omega) (by omega) lg1 ls1 lt1
  have SZ2 := fun (left : Int) (h0 : 0 ≤ left) (h1 : left ≤ 1048576) (w : World) (a : Option Addr) (c : Nat) => szchr_any k2 p2 g2 s2 t2 a c left w h0 h1 lg2 ls2 lt2
  have C1 := szV_cases g1 s1 t1 1048576 (by omega)
  obtain ⟨a1, n1, rfl⟩ := h1.len
  obtain ⟨a2, n2, rfl⟩ := h2.len
  clear h1 h2 lg1 ls1 lt1 lg2 ls2 lt2
  obtain ⟨l1, hl1⟩ : ∃ l1, l1 = szV g1 s1 t1 1048576 := ⟨_, rfl⟩
  rw [← hl1] at SZ1 C1
  have SZ1 := Lib.hid SZ1
  clear hl1
  rcases C1 with rfl | ⟨l0, lm, hg1, _, _⟩
  · clear SZ2
    go_enter Try.func3, Try.ntmps3
    go_wp2_with (go_at_call 4; (refine (SZ1.out _ _ _).mono ?_); rintro e w1 ⟨rfl, hb⟩)
    go_ret
    exact ⟨rfl, Below.next (a := w) (by go_grown) hb⟩
  · have C2 := szV_cases g2 s2 t2 l1 lm
    have SZ2 := SZ2 l1 l0 lm
    obtain ⟨l2, hl2⟩ : ∃ l2, l2 = szV g2 s2 t2 l1 := ⟨_, rfl⟩
    rw [← hl2] at SZ2 C2
    have SZ2 := Lib.hid SZ2
    have nl1 : ¬ l1 < 0 := by omega
    clear hl2
    rcases C2 with rfl | ⟨m0, mm, hg2, _, _⟩
    · go_enter Try.func3, Try.ntmps3
      go_wp2_with (first
        | (go_at_call 4; (with_reducible refine (SZ1.out _ _ _).mono ?_); rintro e w1 ⟨rfl, hb⟩; have B1 := Lib.hid (BoxAt.below (BoxAt.new k2 p2 (.slice a2 g2.length n2) s2 t2 (w.heap.size + 1) (by simp)) hb); have AC := Lib.hid (Below.next (a := w) (by go_grown) hb); clear hb; obtain ⟨x0, x1, x2, x3, x4⟩ := B1.out)
        | (go_at_call 4; (with_reducible refine (SZ2.out _ _ _).mono ?_); rintro e w2 ⟨rfl, hb⟩))
      go_ret
      exact ⟨rfl, Below.next AC.out hb⟩
    · have T1 := Lib.hid (fun w' (h : ArgInts .i64 w' (.slice a1 g1.length n1) g1) => tochr_any k1 p1 g1 s1 t1 _ w' h hg1)
      have T2 := Lib.hid (fun w' (h : ArgInts .i64 w' (.slice a2 g2.length n2) g2) => tochr_any k2 p2 g2 s2 t2 _ w' h hg2)
      have SS := fun w' v1 v2 a b => ssamechr_any k1 k2 p1 p2 g1 g2 s1 s2 t1 t2 v1 v2 w' a b
      have SI := fun w' v1 v2 a b => samechr_any k1 k2 p1 p2 g1 g2 s1 s2 t1 t2 v1 v2 w' a b
      obtain ⟨B, hB⟩ : ∃ B, B = sameB k1 k2 p1 p2 g1 g2 s1 s2 t1 t2 := ⟨_, rfl⟩
      rw [← hB] at SS SI
      have SS := Lib.hid SS
      have SI := Lib.hid SI
      have E1 := Lib.hid (fun w' v1 v2 a b => eqchr_same k1 p1 g1 s1 t1 v1 v2 w' a b)
      have E2 := Lib.hid (fun w' v1 v2 a b => eqchr_same k2 p2 g2 s2 t2 v1 v2 w' a b)
      have nl2 : ¬ l2 < 0 := by omega
      clear hB
      go_enter Try.func3, Try.ntmps3
      go_wp2_with (go_at_call 4; (with_reducible refine (SZ1.out _ _ _).mono ?_); rintro e w1 ⟨rfl, hb⟩; refine Hid.out ?_)
      refine Lib.hid ?_
      have XA := Lib.hid (show BoxAt w1 w.heap.size k1 (.slice a1 g1.length n1) s1 t1 p1 from BoxAt.below (BoxAt.below (BoxAt.new (w := w) k1 p1 _ s1 t1 _ rfl) ((Below.refl _ _).alloc (Nat.le_refl _) _)) hb)
      have XB := Lib.hid (show BoxAt w1 (w.heap.size + 1) k2 (.slice a2 g2.length n2) s2 t2 p2 from BoxAt.below (BoxAt.new k2 p2 _ s2 t2 _ (by simp)) hb)
      have AC := Lib.hid (Below.next (a := w) (by go_grown) hb)
      clear hb
      obtain ⟨x0, x1, x2, x3, x4⟩ := XB.out
      go_wp2_with (go_at_call 4; (with_reducible refine (SZ2.out _ _ _).mono ?_); rintro e w2 ⟨rfl, hb⟩; refine Hid.out ?_)
      refine Lib.hid ?_
      have XA := Lib.hid (show BoxAt w2.drew w.heap.size k1 (.slice a1 g1.length n1) s1 t1 p1 from XA.out.below hb.drew)
      have XB := Lib.hid (show BoxAt w2.drew (w.heap.size + 1) k2 (.slice a2 g2.length n2) s2 t2 p2 from XB.out.below hb.drew)
      have AC := Lib.hid (show Below w.heap.size w w2.drew from Below.next AC.out hb.drew)
      clear hb x0 x1 x2 x3 x4 nl1 nl2 SZ1 SZ2
      obtain ⟨x0, x1, x2, x3, x4⟩ := (show BoxAt w2 w.heap.size k1 (.slice a1 g1.length n1) s1 t1 p1 from XA.out)
      obtain ⟨y0, y1, y2, y3, y4⟩ := (show BoxAt w2 (w.heap.size + 1) k2 (.slice a2 g2.length n2) s2 t2 p2 from XB.out)
      go_wp2_with (fail)
      go_cut [6] from 20 to 24 (fun r wx => r = .bool B ∧ BoxAt wx w.heap.size k1 (.slice a1 g1.length n1) s1 t1 p1 ∧ BoxAt wx (w.heap.size + 1) k2 (.slice a2 g2.length n2) s2 t2 p2 ∧ Below w.heap.size w wx)
      case first =>
        go_region_with (first
          | (go_at_call 6; (with_reducible refine (T1.out _ (A1.out.below AC.out)).mono ?_); rintro e wn ⟨ga, rfl, hi, hb⟩; (try replace I2 := Lib.hid (IntsAre.below I2.out hb)); have I1 := Lib.hid (hi.ints hg1); replace XA := Lib.hid (XA.out.below hb); replace XB := Lib.hid (XB.out.below hb); replace AC := Lib.hid (Below.next AC.out hb); clear hi hb; obtain ⟨x0, x1, x2, x3, x4⟩ := XA.out; obtain ⟨y0, y1, y2, y3, y4⟩ := XB.out)
          | (go_at_call 6; (with_reducible refine (T2.out _ (A2.out.below AC.out)).mono ?_); rintro e wm ⟨gb, rfl, hi, hb⟩; (try replace I1 := Lib.hid (IntsAre.below I1.out hb)); have I2 := Lib.hid (hi.ints hg2); replace XA := Lib.hid (XA.out.below hb); replace XB := Lib.hid (XB.out.below hb); replace AC := Lib.hid (Below.next AC.out hb); clear hi hb; obtain ⟨x0, x1, x2, x3, x4⟩ := XA.out; obtain ⟨y0, y1, y2, y3, y4⟩ := XB.out)
          | (go_at_call 5; (with_reducible refine (SS.out _ _ _ I1.out I2.out).mono ?_); rintro e wo ⟨rfl, hb⟩; replace XA := Lib.hid (XA.out.below hb); replace XB := Lib.hid (XB.out.below hb); replace AC := Lib.hid (Below.next AC.out hb); clear hb))
        all_goals
          go_wp2_with (fail)
          go_meet
          exact ⟨rfl, XA.out, XB.out, AC.out⟩
      case rest =>
        clear XA XB AC x0 x1 x2 x3 x4 y0 y1 y2 y3 y4
        obtain ⟨rfl, xa, xb, ac⟩ := hcut
        have XA := Lib.hid xa
        have XB := Lib.hid xb
        have AC := Lib.hid ac
        clear xa xb ac
        obtain ⟨x0, x1, x2, x3, x4⟩ := XA.out
        go_wp2_with (go_at_call 6; (with_reducible refine (T1.out _ (A1.out.below AC.out)).mono ?_); rintro e wd ⟨ga, rfl, hi, hb⟩; refine Hid.out ?_)
        refine Lib.hid ?_
        have I1 := Lib.hid (hi.ints hg1)
        have XA := Lib.hid (XA.out.below hb)
        have XB := Lib.hid (XB.out.below hb)
        have AC := Lib.hid (Below.next AC.out hb)
        obtain ⟨da, dn, rfl⟩ := hi.len
        clear hi hb x0 x1 x2 x3 x4
        have hsz := AC.out.size
        have N0 := Lib.hid (BoxAt.new (w := wd) (T := 27) k1 p1 (.slice da g1.length dn) s1 t1 wd.heap.size rfl)
        have ab := (Below.refl wd.heap.size wd).alloc (Nat.le_refl _) (.cells #[.int .i64 k1, .slice da g1.length dn, .string s1, .string t1, .int .i64 p1] 27)
        have XA := Lib.hid (XA.out.below ab)
        have XB := Lib.hid (XB.out.below ab)
        have I1 := Lib.hid (I1.out.below ab)
        have AC := Lib.hid (Below.next AC.out ab)
        clear ab
        obtain ⟨x0, x1, x2, x3, x4⟩ := XB.out
        go_wp2_with (go_at_call 6; (with_reducible refine (T2.out _ (A2.out.below AC.out)).mono ?_); rintro e we ⟨gb, rfl, hi, hb⟩; refine Hid.out ?_)
        refine Lib.hid ?_
        have I2 := Lib.hid (hi.ints hg2)
        have I1 := Lib.hid (I1.out.below hb)
        have XA := Lib.hid (XA.out.below hb)
        have XB := Lib.hid (XB.out.below hb)
        have N0 := Lib.hid (N0.out.below hb)
        have AC := Lib.hid (Below.next AC.out hb)
        obtain ⟨ea, en, rfl⟩ := hi.len
        clear hi hb x0 x1 x2 x3 x4
        have N1 := Lib.hid (BoxAt.new (w := we) (T := 27) k2 p2 (.slice ea g2.length en) s2 t2 we.heap.size rfl)
        have ab := (Below.refl we.heap.size we).alloc (Nat.le_refl _) (.cells #[.int .i64 k2, .slice ea g2.length en, .string s2, .string t2, .int .i64 p2] 27)
        have XA := Lib.hid (XA.out.below ab)
        have XB := Lib.hid (XB.out.below ab)
        have N0 := Lib.hid (N0.out.below ab)
        have I1 := Lib.hid (I1.out.below ab)
        have I2 := Lib.hid (I2.out.below ab)
        have AC := Lib.hid (Below.next AC.out ab)
        clear ab
        obtain ⟨x0, x1, x2, x3, x4⟩ := N0.out
        obtain ⟨y0, y1, y2, y3, y4⟩ := N1.out
        go_wp2_with (go_at_call 7; (with_reducible refine (SI.out _ _ _ I1.out I2.out).mono ?_); rintro e wf ⟨rfl, hb⟩; refine Hid.out ?_)
        refine Lib.hid ?_
        have I1 := Lib.hid (I1.out.below hb)
        have I2 := Lib.hid (I2.out.below hb)
        have XA := Lib.hid (XA.out.below hb)
        have XB := Lib.hid (XB.out.below hb)
        have N0 := Lib.hid (N0.out.below hb)
        have N1 := Lib.hid (N1.out.below hb)
        have AC := Lib.hid (Below.next AC.out hb)
        clear hb x0 x1 x2 x3 x4 y0 y1 y2 y3 y4
        obtain ⟨x0, x1, x2, x3, x4⟩ := N0.out
        obtain ⟨y0, y1, y2, y3, y4⟩ := XA.out
        have I1 := Lib.hid (show IntsAre .i64 wf.drew _ g1 from I1.out)
        have I2 := Lib.hid (show IntsAre .i64 wf.drew _ g2 from I2.out)
        have XA := Lib.hid (show BoxAt wf.drew _ _ _ _ _ _ from XA.out)
        have XB := Lib.hid (show BoxAt wf.drew _ _ _ _ _ _ from XB.out)
        have N0 := Lib.hid (show BoxAt wf.drew _ _ _ _ _ _ from N0.out)
        have N1 := Lib.hid (show BoxAt wf.drew _ _ _ _ _ _ from N1.out)
        have AC := Lib.hid (show Below w.heap.size w wf.drew from AC.out.drew)
        go_wp2_with (fail)
        go_cut [39] from 35 to 38 (fun c wx => c = .bool false ∧ BoxAt wx (w.heap.size + 1) k2 (.slice a2 g2.length n2) s2 t2 p2 ∧ BoxAt wx we.heap.size k2 (.slice ea g2.length en) s2 t2 p2 ∧ IntsAre .i64 wx (.slice ea g2.length en) g2 ∧ Below w.heap.size w wx)
        case first =>
          go_region_with (first
            | (go_at_call 6; (with_reducible refine (T1.out _ (A1.out.below AC.out)).mono ?_); rintro e wn ⟨gn, rfl, hi, hb⟩; have J1 := Lib.hid (hi.ints hg1); replace I1 := Lib.hid (I1.out.below hb); replace I2 := Lib.hid (I2.out.below hb); replace N0 := Lib.hid (N0.out.below hb); replace N1 := Lib.hid (N1.out.below hb); replace XB := Lib.hid (XB.out.below hb); replace AC := Lib.hid (Below.next AC.out hb); clear hi hb; obtain ⟨x0, x1, x2, x3, x4⟩ := N0.out)
            | (go_at_call 8; (with_reducible refine (E1.out _ _ _ I1.out J1.out).mono ?_); rintro e wo ⟨rfl, hb⟩; replace I2 := Lib.hid (I2.out.below hb); replace N1 := Lib.hid (N1.out.below hb); replace XB := Lib.hid (XB.out.below hb); replace AC := Lib.hid (Below.next AC.out hb); clear hb))
          all_goals
            go_wp2_with (fail)
            go_meet
            exact ⟨by first | rfl | simp, XB.out, N1.out, I2.out, AC.out⟩
        case rest =>
          clear XA XB N0 N1 I1 I2 AC x0 x1 x2 x3 x4 y0 y1 y2 y3 y4
          obtain ⟨rfl, xb, nn1, i2, ac⟩ := hcut
          have I2 := Lib.hid (show IntsAre .i64 wc.drew _ g2 from i2)
          have N1 := Lib.hid (show BoxAt wc.drew _ _ _ _ _ _ from nn1)
          have AC := Lib.hid (show Below w.heap.size w wc.drew from ac.drew)
          obtain ⟨x0, x1, x2, x3, x4⟩ := nn1
          obtain ⟨y0, y1, y2, y3, y4⟩ := xb
          clear i2 ac
          go_wp2_with (fail)
          go_region_with (first
            | (go_at_call 6; (with_reducible refine (T2.out _ (A2.out.below AC.out)).mono ?_); rintro e wn ⟨gn, rfl, hi, hb⟩; have J2 := Lib.hid (hi.ints hg2); replace I2 := Lib.hid (I2.out.below hb); replace N1 := Lib.hid (N1.out.below hb); replace AC := Lib.hid (Below.next AC.out hb); clear hi hb; obtain ⟨x0, x1, x2, x3, x4⟩ := N1.out)
            | (go_at_call 8; (with_reducible refine (E2.out _ _ _ I2.out J2.out).mono ?_); rintro e wo ⟨rfl, hb⟩; replace AC := Lib.hid (Below.next AC.out hb); clear hb))
          all_goals
            go_wp2
            go_ret
            exact ⟨rfl, AC.out⟩

theorem samechr_law (gv0 gv1 : Value) (c0 c1 : Chr) (w : World) (h0 : ArgChr w gv0 c0) (h1 : ArgChr w gv1 c1) :
    Calls Try.prog 3 #[.agg #[.int .i64 c0.kind, gv0, .string ⟨c0.letter.toArray⟩, .string ⟨c0.colors.toArray⟩, .int .i64 c0.period], .agg #[.int .i64 c1.kind, gv1, .string ⟨c1.letter.toArray⟩, .string ⟨c1.colors.toArray⟩, .int .i64 c1.period]] w fun e w' => e = .returned (.bool true) ∧ Below w.heap.size w w' :=
  samechr_law2 _ _ _ _ c0.group c1.group _ _ _ _ gv0 gv1 w h0.g h1.g h0.lg h0.ll h0.lc h1.lg h1.ll h1.lc
end Go.Proofs.Ythggoboljkdldaa
