/- The law of DangersAt. -/
import Derived.Test.YthccbipjmheoaaaDatS
import Derived.Test.YthccbipjmheoaaaDgrA
import Derived.Test.YthccbipjmheoaaaDgrK
import Derived.Deep.RegionWith
import Derived.Deep.CutRange
namespace Go.Proofs.Ythccbipjmheoaaa
open Go.ChangeShapes Go.WideShapes Go.ChangeAt Go.RowKit Pm

/-- A point in memory. -/
def PtAt (w : World) (b : Nat) (x y : Int) : Prop := w.cell? ⟨b, 0, none⟩ = some (.int .i64 x) ∧ w.cell? ⟨b, 1, none⟩ = some (.int .i64 y)
theorem PtAt.below {w w' : World} {b : Nat} {x y : Int} (h : PtAt w b x y) (hb : Below w.heap.size w w') : PtAt w' b x y := ⟨cell_below h.1 hb, cell_below h.2 hb⟩
theorem PtAt.only {v : Value} {w w' : World} {b : Nat} {x y : Int} (h : OnlyD v w w') (hv : v.ownBlock ≠ some b) (k : PtAt w b x y) : PtAt w' b x y := ⟨h.cell hv k.1, h.cell hv k.2⟩
theorem OwnSO.only {v v2 : Value} {w w' : World} {B2 : Nat} {l : List ByteArray} (h : OnlyD v w w') (hv : ∀ g, v.ownBlock = some g → g < B2 ) (ho : OwnSO w B2 v2 l) : OwnSO w' B2 v2 l := h.own hv ho
theorem dN_below (w : World) (n : Nat) : Below w.heap.size w (w.drewN n) := below_drewN (Below.refl _ _) n
theorem ownlow_below {w w' : World} {B B2 s n : Nat} {T : TypeId} {v : Value} {xs : List Value} (ho : w.ownsRow B2 T s v n xs) (hb : Below B w w') (hv : ∀ g, v.ownBlock = some g → g < B) : w'.ownsRow B2 T s v n xs := by
  refine ⟨ho.1, ?_⟩
  rcases ho.2 with h2 | ⟨g, cap, cur, h1, h3, h4, h5⟩
  · exact .inl h2
  · refine .inr ⟨g, cap, cur, h1, h3, ?_, h5⟩
    rw [hb.block g (hv g (by rw [h1]; rfl))]; exact h4
theorem OnlyD.ownlt {v v2 : Value} {w w' : World} {B2 s n : Nat} {T : TypeId} {xs : List Value} (h : OnlyD v w w') (hv : ∀ g, v.ownBlock = some g → ∀ g2, v2.ownBlock = some g2 → g ≠ g2) (ho : w.ownsRow B2 T s v2 n xs) : w'.ownsRow B2 T s v2 n xs := by
  refine ⟨ho.1, ?_⟩
  rcases ho.2 with h2 | ⟨g, cap, cur, h1, h3, h4, h5⟩
  · exact .inl h2
  · refine .inr ⟨g, cap, cur, h1, h3, ?_, h5⟩
    have hlt : g < w.heap.size := by
      rcases Nat.lt_or_ge g w.heap.size with h' | h'
      · exact h'
      · rw [Array.getElem?_eq_none h'] at h4; cases h4
    rw [h.2 g (fun e => hv g e g (by rw [h1]; rfl) rfl) hlt]; exact h4
set_option maxRecDepth 100000 in
set_option maxHeartbeats 4000000 in
theorem dangersat_law (a1 : Option Addr) (n1 c1 : Nat) (ps : List Dg) (px py : Int) (w : World) (h1 : GotDg w a1 n1 ps) :
    Calls Try.prog 8 #[.slice a1 n1 c1, .agg #[.int .i64 px, .int .i64 py]] w fun e w' => e = .returned (.bool true) ∧ Below w.heap.size w w' := by
  have G1 := Lib.hid h1
  obtain rfl : n1 = ps.length := h1.arg.1
  clear h1
  go_enter Try.func8, Try.ntmps8
  go_wp2_with (go_at_call 23; refine (szdgs_any _ _ _ 1048576 ps _ G1.out.len G1.out.sz (by omega) (by omega) (G1.out.arg.below (by go_grown))).mono ?_; rintro e w1 ⟨r, hr, rfl, hb⟩; refine Hid.out ?_)
  refine Lib.hid ?_
  have PA := Lib.hid (show PtAt w1 w.heap.size px py from ⟨cell_below (by go_cell) hb, cell_below (by go_cell) hb⟩)
  have AC := Lib.hid (Below.next (a := w) (by go_grown) hb)
  clear hb
  rcases hr with rfl | ⟨r0, r1, l1, l2⟩
  · go_wp2
    go_ret
    exact ⟨rfl, AC.out⟩
  have nr : ¬ r < 0 := by omega
  have hl1 : ps.length ≤ 1048576 := by omega
  have hsz : ∀ i, i < ps.length → (ps.getD i dg0).1.size ≤ maxLen := fun i hi => by rw [dg_getD _ _ hi]; exact G1.out.sz _ (List.getElem_mem hi)
  have hm : (datN ps px py).length ≤ 2097152 := Nat.le_trans (datN_len _ _ _) (by omega)
  clear r0 r1 l1 l2
  have T := Lib.hid (fun w' h => todgs_any a1 ps.length c1 ps w' h hl1)
  have SP := Lib.hid (fun w' v h => sdangersat_any v ps px py w' hl1 hsz h)
  have IM := Lib.hid (fun w' v h => dangersat_any v ps px py w' hl1 hsz h)
  have EQ := Lib.hid (fun w' v1 v2 h1 h2 => eqdgs_same v1 v2 ps w' hl1 h1 h2)
  have ES := Lib.hid (fun w' v1 v2 B1 B2 (h1 : OwnSO w' B1 v1 (datN ps px py)) (h2 : OwnSO w' B2 v2 (datN ps px py)) => eqstrs_same v1 v2 B1 B2 _ _ (datN ps px py) w' hm h1 h2)
  have MK := Lib.hid (fun w' v B hB (h : OwnDg w' B v ps) => markdg_any v ps.length (dgV ps) B w' hB hl1 h)
  have MT := Lib.hid (fun w' v B hB (h : OwnSO w' B v (datN ps px py)) => markt_any v (datN ps px py).length (strO (datN ps px py)) B w' hB hm h)
  have HT := Lib.hid (fun w' v B (h : w'.ownsRow B 9 1 v (datN ps px py).length (strV (marksT 1 (datN ps px py).length))) => heldt_any v (datN ps px py).length B w' hm h)
  unfold NamRet at SP IM
  generalize datN ps px py = L at *
  generalize datE ps px py = E at *
  clear hsz
  obtain ⟨p0, p1⟩ := PA.out
  have XA := Lib.hid (show PtAt w1.drew _ _ _ from PA.out.below (Below.refl _ _).drew)
  have BC := Lib.hid (show Below w.heap.size w w1.drew from AC.out.drew)
  have I1 := Lib.hid True.intro
  go_wp2_with (fail)
  go_cut [6, 7] from 21 to 28 (fun r rr wx => rr = .int .i64 E ∧ OwnSO wx (w.heap.size + 1) r L ∧ PtAt wx w.heap.size px py ∧ Below w.heap.size w wx)
  case first =>
    have hsz1 : w.heap.size + 1 ≤ w1.heap.size := World.block_lt_of_cell? _ _ p0
    have HZ := Lib.hid (show w.heap.size + 1 ≤ w1.drew.heap.size from hsz1)
    go_region_with (first
      | (go_at_call 25; (refine (T.out _ (G1.out.arg.below BC.out)).mono ?_); rintro e wn ⟨v1, rfl, ho, hb⟩; replace I1 := Lib.hid (ho.are); replace XA := Lib.hid (XA.out.below hb); replace BC := Lib.hid (Below.next BC.out hb); replace HZ := Lib.hid (Nat.le_trans HZ.out hb.size); clear ho hb; obtain ⟨p0, p1⟩ := XA.out)
      | (go_at_call 14; (refine (topoint_any _ _ _).mono ?_); rintro e wo ⟨rfl, hb⟩; (first | replace I1 := Lib.hid (I1.out.below hb) | skip); replace XA := Lib.hid (XA.out.below hb); replace BC := Lib.hid (Below.next BC.out hb); replace HZ := Lib.hid (Nat.le_trans HZ.out hb.size); clear hb; obtain ⟨p0, p1⟩ := XA.out)
      | (go_at_call 32; (refine (SP.out _ _ I1.out).mono ?_); rintro e wq ⟨v5, rfl, ho, hb⟩; have O5 := Lib.hid (OwnSO.mono ho HZ.out); replace XA := Lib.hid (XA.out.below hb); replace BC := Lib.hid (Below.next BC.out hb); clear hb I1 ho; obtain ⟨p0, p1⟩ := XA.out))
    all_goals
      go_wp2_with (fail)
      go_meet
      exact ⟨rfl, O5.out, XA.out, BC.out⟩
  case rest =>
    clear PA AC XA BC I1 SP nr p0 p1
    obtain ⟨rfl, o0, pa, ac⟩ := hcut
    have hw0 : w.heap.size < wc.heap.size := World.block_lt_of_cell? _ _ pa.1
    have hv0 := fun g hg => (dgown_block o0 g hg).2
    have LT0 := Lib.hid hv0
    clear hv0
    have O0 := Lib.hid o0
    have PA := Lib.hid pa
    have AC := Lib.hid ac
    clear o0 pa ac
    obtain ⟨p0, p1⟩ := PA.out
    go_wp2_with (go_at_call 25; (refine (T.out _ (G1.out.arg.below AC.out)).mono ?_); rintro e w4 ⟨v1, rfl, ho, hb⟩; refine Hid.out ?_)
    refine Lib.hid ?_
    have D1 := Lib.hid ho
    replace O0 := Lib.hid (O0.out.below hb)
    replace PA := Lib.hid (PA.out.below hb)
    replace AC := Lib.hid (Below.next AC.out hb)
    have C4 := Lib.hid hb
    have GE1 := Lib.hid (fun g hg => (dgown_block ho g hg).1)
    have LT1 := Lib.hid (fun g hg => (dgown_block ho g hg).2)
    clear ho hb p0 p1
    obtain ⟨p0, p1⟩ := PA.out
    go_wp2_with (go_at_call 14; (refine (topoint_any _ _ _).mono ?_); rintro e w5 ⟨rfl, hb⟩; refine Hid.out ?_)
    refine Lib.hid ?_
    have S45 := Lib.hid hb.size
    replace D1 := Lib.hid (D1.out.below hb)
    replace O0 := Lib.hid (O0.out.below hb)
    replace PA := Lib.hid (PA.out.below hb)
    replace AC := Lib.hid (Below.next AC.out hb)
    replace C4 := Lib.hid (Below.next C4.out hb)
    clear hb p0 p1
    go_wp2_with (go_at_call 33; (refine (IM.out _ _ D1.out.are).mono ?_); rintro e w6 ⟨v2, rfl, ho, hb⟩; refine Hid.out ?_)
    refine Lib.hid ?_
    have O2 := Lib.hid ho
    have Z5 := Lib.hid hb.size
    have hc5 : wc.heap.size ≤ w5.heap.size := C4.out.size
    have GE2 := Lib.hid (fun g hg => (dgown_block (show w6.ownsRow _ _ 1 v2 _ _ from ho) g hg).1)
    replace D1 := Lib.hid (D1.out.below hb)
    replace O0 := Lib.hid (O0.out.below hb)
    replace PA := Lib.hid (PA.out.below hb)
    replace AC := Lib.hid (Below.next AC.out hb)
    replace C4 := Lib.hid (Below.next C4.out hb)
    clear ho hb
    go_wp2_with (go_at_call 34; (refine (ES.out _ _ _ _ _ O2.out O0.out).mono ?_); rintro e w7 ⟨rfl, n7, rfl⟩; refine Hid.out ?_)
    refine Lib.hid ?_
    have hb := dN_below w6 n7
    replace O2 := Lib.hid (O2.out.below hb)
    replace D1 := Lib.hid (D1.out.below hb)
    replace O0 := Lib.hid (O0.out.below hb)
    replace PA := Lib.hid (PA.out.below hb)
    replace AC := Lib.hid (Below.next AC.out hb)
    replace C4 := Lib.hid (Below.next C4.out hb)
    replace Z5 := Lib.hid (Nat.le_trans Z5.out hb.size)
    clear hb
    obtain ⟨w7, hw7⟩ : ∃ w7, w7 = w6.drewN n7 := ⟨_, rfl⟩
    rw [← hw7] at O2 D1 O0 PA AC C4 Z5 ⊢
    clear hw7
    go_wp2_with (go_at_call 25; (refine (T.out _ (G1.out.arg.below AC.out)).mono ?_); rintro e w8 ⟨v3, rfl, ho, hb⟩; refine Hid.out ?_)
    refine Lib.hid ?_
    have D3 := Lib.hid ho.are
    replace O2 := Lib.hid (O2.out.below hb)
    replace D1 := Lib.hid (D1.out.below hb)
    replace O0 := Lib.hid (O0.out.below hb)
    replace PA := Lib.hid (PA.out.below hb)
    replace AC := Lib.hid (Below.next AC.out hb)
    replace C4 := Lib.hid (Below.next C4.out hb)
    replace Z5 := Lib.hid (Nat.le_trans Z5.out hb.size)
    clear ho hb
    go_wp2_with (go_at_call 27; (refine (EQ.out _ _ _ D1.out.are D3.out).mono ?_); rintro e w9 ⟨rfl, hb⟩; refine Hid.out ?_)
    refine Lib.hid ?_
    replace O2 := Lib.hid (O2.out.below hb)
    replace D1 := Lib.hid (D1.out.below hb)
    replace O0 := Lib.hid (O0.out.below hb)
    replace PA := Lib.hid (PA.out.below hb)
    replace AC := Lib.hid (Below.next AC.out hb)
    replace C4 := Lib.hid (Below.next C4.out hb)
    replace Z5 := Lib.hid (Nat.le_trans Z5.out hb.size)
    clear D3 hb
    have hk : ¬ (1 + 4 * (ps.length : Int)) < 0 := by omega
    have HMK := Lib.hid (MK.out w9 v1 wc.heap.size C4.out.size D1.out)
    obtain ⟨K, hK⟩ : ∃ K, K = 1 + 4 * (ps.length : Int) := ⟨_, rfl⟩
    rw [← hK] at hk HMK
    clear hK MK
    go_wp2_with (go_at_call 30; (refine HMK.out.mono ?_); rintro e w10 ⟨rfl, hb, hon⟩; refine Hid.out ?_)
    refine Lib.hid ?_
    replace O2 := Lib.hid (show OwnSO w10 w5.heap.size v2 L from hon.ownlt (fun g hg g2 hg2 e => by have h1 := LT1.out g hg; have h2 := GE2.out g2 hg2; have h3 := S45.out; omega) O2.out)
    replace O0 := Lib.hid (show OwnSO w10 (w.heap.size + 1) u6 L from hon.ownlt (fun g hg g2 hg2 e => by have h1 := GE1.out g hg; have h2 := LT0.out g2 hg2; omega) O0.out)
    replace PA := Lib.hid (PA.out.only hon (fun e => by have h1 := GE1.out _ e; omega))
    replace AC := Lib.hid (AC.out.trans (hb.mono (by omega)))
    replace C4 := Lib.hid (C4.out.trans hb)
    replace Z5 := Lib.hid (Nat.le_trans Z5.out hon.1)
    clear hb hon D1 HMK C4 EQ
    go_wp2_with (go_at_call 34; (refine (ES.out _ _ _ _ _ O2.out O0.out).mono ?_); rintro e w11 ⟨rfl, n11, rfl⟩; refine Hid.out ?_)
    refine Lib.hid ?_
    have hb := dN_below w10 n11
    replace O2 := Lib.hid (O2.out.below hb)
    replace O0 := Lib.hid (O0.out.below hb)
    replace PA := Lib.hid (PA.out.below hb)
    replace AC := Lib.hid (Below.next AC.out hb)
    replace Z5 := Lib.hid (Nat.le_trans Z5.out hb.size)
    clear hb
    obtain ⟨w11, hw11⟩ : ∃ w11, w11 = w10.drewN n11 := ⟨_, rfl⟩
    rw [← hw11] at O2 O0 PA AC Z5 ⊢
    clear hw11
    have HMT := Lib.hid (MT.out w11 v2 w5.heap.size Z5.out O2.out)
    have HHT := Lib.hid (fun w' h => HT.out w' v2 w5.heap.size h)
    have hk2 : ¬ (1 + (L.length : Int)) < 0 := by omega
    obtain ⟨M, hM⟩ : ∃ M, M = 1 + (L.length : Int) := ⟨_, rfl⟩
    rw [← hM] at hk2 HMT HHT
    clear hM MT HT O2
    go_wp2_with (go_at_call 35; (refine HMT.out.mono ?_); rintro e w12 ⟨rfl, ho, hb⟩; refine Hid.out ?_)
    refine Lib.hid ?_
    have M2 := Lib.hid ho
    replace O0 := Lib.hid (show OwnSO w12 (w.heap.size + 1) u6 L from ownlow_below O0.out hb (fun g hg => by have := LT0.out g hg; omega))
    replace PA := Lib.hid (show PtAt w12 w.heap.size px py from ⟨(hb.cell (by simp only; omega)).trans PA.out.1, (hb.cell (by simp only; omega)).trans PA.out.2⟩)
    replace AC := Lib.hid (AC.out.trans (hb.mono (by omega)))
    clear ho hb HMT Z5
    go_wp2_with (go_at_call 36; (refine (HHT.out _ M2.out).mono ?_); rintro e w13 ⟨rfl, hb⟩; refine Hid.out ?_)
    refine Lib.hid ?_
    replace M2 := Lib.hid (own_below M2.out hb)
    replace O0 := Lib.hid (O0.out.below hb)
    replace PA := Lib.hid (PA.out.below hb)
    replace AC := Lib.hid (Below.next AC.out hb)
    clear hb
    obtain ⟨p0, p1⟩ := PA.out
    have XA := Lib.hid (show PtAt w13.drew _ _ _ from PA.out.below (Below.refl _ _).drew)
    have BC := Lib.hid (show Below w.heap.size w w13.drew from AC.out.drew)
    have OZ := Lib.hid (show OwnSO w13.drew (w.heap.size + 1) u6 L from O0.out.drew)
    have MZ := Lib.hid (show w13.drew.ownsRow w5.heap.size 9 1 v2 L.length (strV (marksT 1 L.length)) from own_below M2.out (Below.refl _ _).drew)
    have I1 := Lib.hid True.intro
    clear PA AC O0 M2
    go_wp2_with (fail)
    go_cut [14, 15] from 79 to 86 (fun q qq wx => qq = .int .i64 E ∧ OwnSO wx w.heap.size q L ∧ OwnSO wx (w.heap.size + 1) u6 L ∧ wx.ownsRow w5.heap.size 9 1 v2 L.length (strV (marksT 1 L.length)) ∧ Below w.heap.size w wx)
    case first =>
      go_region_with (first
        | (go_at_call 25; (refine (T.out _ (G1.out.arg.below BC.out)).mono ?_); rintro e wn ⟨v4, rfl, ho, hb⟩; replace I1 := Lib.hid (ho.are); replace XA := Lib.hid (XA.out.below hb); replace BC := Lib.hid (Below.next BC.out hb); replace OZ := Lib.hid (OZ.out.below hb); replace MZ := Lib.hid (own_below MZ.out hb); clear ho hb; obtain ⟨p0, p1⟩ := XA.out)
        | (go_at_call 14; (refine (topoint_any _ _ _).mono ?_); rintro e wo ⟨rfl, hb⟩; (first | replace I1 := Lib.hid (I1.out.below hb) | skip); replace XA := Lib.hid (XA.out.below hb); replace BC := Lib.hid (Below.next BC.out hb); replace OZ := Lib.hid (OZ.out.below hb); replace MZ := Lib.hid (own_below MZ.out hb); clear hb; obtain ⟨p0, p1⟩ := XA.out)
        | (go_at_call 33; (refine (IM.out _ _ I1.out).mono ?_); rintro e wq ⟨v5, rfl, ho, hb⟩; have O5 := Lib.hid (OwnSO.mono ho BC.out.size); replace BC := Lib.hid (Below.next BC.out hb); replace OZ := Lib.hid (OZ.out.below hb); replace MZ := Lib.hid (own_below MZ.out hb); clear hb I1 ho))
      all_goals
        go_wp2_with (fail)
        go_meet
        exact ⟨rfl, O5.out, OZ.out, MZ.out, BC.out⟩
    case rest =>
      clear XA BC OZ MZ I1 IM T p0 p1
      obtain ⟨rfl, o3, o0, m2, ac⟩ := hcut
      have O3 := Lib.hid o3
      have O0 := Lib.hid o0
      have M2 := Lib.hid m2
      have AC := Lib.hid ac
      clear o3 o0 m2 ac
      go_wp2_with (go_at_call 34; (refine (ES.out _ _ _ _ _ O3.out O0.out).mono ?_); rintro e w14 ⟨rfl, n14, rfl⟩; refine Hid.out ?_)
      refine Lib.hid ?_
      replace M2 := Lib.hid (own_below M2.out (dN_below _ n14))
      replace AC := Lib.hid (Below.next AC.out (dN_below _ n14))
      clear O3 O0
      go_wp2_with (go_at_call 36; (refine (HHT.out _ M2.out).mono ?_); rintro e w15 ⟨rfl, hb⟩; replace AC := Lib.hid (Below.next AC.out hb); clear hb)
      go_ret
      exact ⟨rfl, AC.out⟩
end Go.Proofs.Ythccbipjmheoaaa
