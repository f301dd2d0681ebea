/- The law of DangersOn. -/
import Derived.Test.YthccbipjmheoaaaDonS
import Derived.Test.YthccbipjmheoaaaDonK
import Derived.Test.YthccbipjmheoaaaDgrA
import Derived.Test.YthccbipjmheoaaaArgPts
namespace Go.Proofs.Ythccbipjmheoaaa
open Go.ChangeShapes Go.WideShapes Go.ChangeAt Go.RowKit Pm

theorem OwnSO.only {v v2 : Value} {w w' : World} {B2 : Nat} {l : List ByteArray} (h : OnlyD v w w') (hv : ∀ g, v.ownBlock = some g → g < B2 ) (ho : OwnSO w B2 v2 l) : OwnSO w' B2 v2 l := h.own hv ho
theorem dN_below (w : World) (n : Nat) : Below w.heap.size w (w.drewN n) := below_drewN (Below.refl _ _) n
theorem ownlow_below {w w' : World} {B B2 s n : Nat} {T : TypeId} {v : Value} {xs : List Value} (ho : w.ownsRow B2 T s v n xs) (hb : Below B w w') (hv : ∀ g, v.ownBlock = some g → g < B) : w'.ownsRow B2 T s v n xs := by
  refine ⟨ho.1, ?_⟩
  rcases ho.2 with h2 | ⟨g, cap, cur, h1, h3, h4, h5⟩
  · exact .inl h2
  · refine .inr ⟨g, cap, cur, h1, h3, ?_, h5⟩
    rw [hb.block g (hv g (by rw [h1]; rfl))]; exact h4
theorem OnlyD.ownlt {v v2 : Value} {w w' : World} {B2 s n : Nat} {T : TypeId} {xs : List Value} (h : OnlyD v w w') (hv : ∀ g, v.ownBlock = some g → ∀ g2, v2.ownBlock = some g2 → g ≠ g2) (ho : w.ownsRow B2 T s v2 n xs) : w'.ownsRow B2 T s v2 n xs := by
  refine ⟨ho.1, ?_⟩
  rcases ho.2 with h2 | ⟨g, cap, cur, h1, h3, h4, h5⟩
  · exact .inl h2
  · refine .inr ⟨g, cap, cur, h1, h3, ?_, h5⟩
    have hlt : g < w.heap.size := by
      rcases Nat.lt_or_ge g w.heap.size with h' | h'
      · exact h'
      · rw [Array.getElem?_eq_none h'] at h4; cases h4
    rw [h.2 g (fun e => hv g e g (by rw [h1]; rfl) rfl) hlt]; exact h4
set_option maxRecDepth 100000 in
set_option maxHeartbeats 4000000 in
theorem dangerson_law (a1 : Option Addr) (n1 c1 : Nat) (ps : List Dg) (a2 : Option Addr) (n2 c2 : Nat) (qs : Pts) (m : Int) (w : World) (h1 : GotDg w a1 n1 ps) (h2 : ArgPts w a2 n2 qs ∧ n2 ≤ maxLen) :
    Calls Try.prog 10 #[.slice a1 n1 c1, .slice a2 n2 c2, .int .i64 m] w fun e w' => e = .returned (.bool true) ∧ Below w.heap.size w w' := by
  have G1 := Lib.hid h1
  have G2 := Lib.hid h2.1
  have hm2 := h2.2
  obtain rfl : n1 = ps.length := h1.arg.1
  obtain rfl : n2 = qs.length := h2.1.1
  clear h1 h2
  go_enter Try.func10, Try.ntmps10
  go_wp2_with (go_at_call 23; refine (szdgs_any _ _ _ 1048576 ps _ G1.out.len G1.out.sz (by omega) (by omega) G1.out.arg).mono ?_; rintro e w1 ⟨r, hr, rfl, hb⟩; refine Hid.out ?_)
  refine Lib.hid ?_
  have AC := Lib.hid (Below.next (a := w) (by go_grown) hb)
  clear hb
  rcases hr with rfl | ⟨r0, r1, l1, l2⟩
  · go_wp2
    go_ret
    exact ⟨rfl, AC.out⟩
  have nr : ¬ r < 0 := by omega
  have hl1 : ps.length ≤ 1048576 := by omega
  have SZ2 := Lib.hid (fun w' => szpts_any a2 qs.length c2 r w' hm2 r0 r1)
  clear r0 l1 l2 hm2
  have R1 := Lib.hid r1
  clear r1
  go_wp2_with (go_at_call 37; (refine (SZ2.out _).mono ?_); rintro e w2 ⟨r', hr, rfl, hb⟩; refine Hid.out ?_)
  refine Lib.hid ?_
  replace AC := Lib.hid (Below.next AC.out hb)
  clear hb SZ2 nr
  rcases hr with rfl | ⟨r0, r1, l1⟩
  · go_wp2
    go_ret
    exact ⟨rfl, AC.out⟩
  have nr : ¬ r' < 0 := by omega
  have hl2 : qs.length ≤ 1048576 := by have := R1.out; omega
  have hsz : ∀ i, i < ps.length → (ps.getD i dg0).1.size ≤ maxLen := fun i hi => by rw [dg_getD _ _ hi]; exact G1.out.sz _ (List.getElem_mem hi)
  have hm : (donN ps qs m).length ≤ 2097152 := Nat.le_trans (donN_len _ _ _) (by omega)
  clear r0 r1 l1
  have T := Lib.hid (fun w' h => todgs_any a1 ps.length c1 ps w' h hl1)
  have TP := Lib.hid (fun w' h => topts_own a2 qs.length c2 qs w' h hl2)
  have SP := Lib.hid (fun w' v u h k => sdangerson_any v u ps qs m w' hl1 hsz h k)
  have IM := Lib.hid (fun w' v u h k => dangerson_any v u ps qs m w' hl1 hsz h k)
  have EQ := Lib.hid (fun w' v1 v2 h1 h2 => eqdgs_same v1 v2 ps w' hl1 h1 h2)
  have EP := Lib.hid (fun w' b1 b2 e1 e2 h1 h2 => eqpts_same b1 b2 e1 e2 qs w' hl2 h1 h2)
  have ES := Lib.hid (fun w' v1 v2 B1 B2 (h1 : OwnSO w' B1 v1 (donN ps qs m)) (h2 : OwnSO w' B2 v2 (donN ps qs m)) => eqstrs_same v1 v2 B1 B2 _ _ (donN ps qs m) w' hm h1 h2)
  have MK := Lib.hid (fun w' v B hB (h : OwnDg w' B v ps) => markdg_any v ps.length (dgV ps) B w' hB hl1 h)
  have MP := Lib.hid (fun w' v B (h : OwnPt w' B v qs) => markpt_any v qs.length (ptsV qs) B (1 + 4 * (ps.length : Int)) w' hl2 (by omega) (by omega) h)
  have MT := Lib.hid (fun w' v B hB (h : OwnSO w' B v (donN ps qs m)) => markt_any v (donN ps qs m).length (strO (donN ps qs m)) B w' hB hm h)
  have HT := Lib.hid (fun w' v B (h : w'.ownsRow B 9 1 v (donN ps qs m).length (strV (marksT 1 (donN ps qs m).length))) => heldt_any v (donN ps qs m).length B w' hm h)
  unfold NamRet at SP IM
  generalize donN ps qs m = L at *
  generalize donE ps qs m = E at *
  clear hsz
  have hk1 : ¬ (1 + 4 * (ps.length : Int) + 2 * (qs.length : Int)) < 0 := by omega
  obtain ⟨K1, hK1⟩ : ∃ K, K = 1 + 4 * (ps.length : Int) := ⟨_, rfl⟩
  rw [← hK1] at hk1 MK MP
  obtain ⟨K2, hK2⟩ : ∃ K, K = K1 + 2 * (qs.length : Int) := ⟨_, rfl⟩
  rw [← hK2] at hk1 MP
  have hk2 : ¬ (1 + (L.length : Int)) < 0 := by omega
  obtain ⟨M, hM⟩ : ∃ M, M = 1 + (L.length : Int) := ⟨_, rfl⟩
  rw [← hM] at hk2 MT HT
  clear hK1 hK2 hM
  go_wp2_with (go_at_call 25; (refine (T.out _ (G1.out.arg.below AC.out)).mono ?_); rintro e w3 ⟨v1, rfl, ho, hb⟩; refine Hid.out ?_)
  refine Lib.hid ?_
  have S1 := Lib.hid ho.are
  replace AC := Lib.hid (Below.next AC.out hb)
  clear ho hb
  go_wp2_with (go_at_call 39; (refine (TP.out _ (G2.out.below AC.out)).mono ?_); rintro e w4 ⟨v2, rfl, ho, hb⟩; refine Hid.out ?_)
  refine Lib.hid ?_
  have Q1 := Lib.hid ((show OwnPt w4 _ v2 qs from ho).pts hl2)
  replace AC := Lib.hid (Below.next AC.out hb)
  replace S1 := Lib.hid (S1.out.below hb)
  clear ho hb
  go_wp2_with (go_at_call 42; (refine (SP.out _ _ _ S1.out Q1.out).mono ?_); rintro e w5 ⟨v0, rfl, ho, hb⟩; refine Hid.out ?_)
  refine Lib.hid ?_
  have O0 := Lib.hid (show OwnSO w5 w.heap.size v0 L from OwnSO.mono ho AC.out.size)
  have LT0 := Lib.hid (fun g hg => (dgown_block (show w5.ownsRow _ _ 1 v0 _ _ from ho) g hg).2)
  obtain ⟨wc, hwc⟩ : ∃ wc, wc = w5 := ⟨_, rfl⟩
  replace AC := Lib.hid (Below.next AC.out hb)
  clear ho hb S1 Q1
  rw [← hwc] at LT0
  have Zc := Lib.hid (show wc.heap.size ≤ w5.heap.size by rw [hwc]; exact Nat.le_refl _)
  have CC := Lib.hid (show Below wc.heap.size wc w5 by rw [hwc]; exact Below.refl _ _)
  have WC := Lib.hid (show w.heap.size ≤ wc.heap.size by rw [hwc]; exact AC.out.size)
  clear hwc
  go_wp2_with (go_at_call 25; (refine (T.out _ (G1.out.arg.below AC.out)).mono ?_); rintro e w6 ⟨x0, rfl, ho, hb⟩; refine Hid.out ?_)
  refine Lib.hid ?_
  have D1 := Lib.hid (show OwnDg w6 wc.heap.size x0 ps from ho.mono Zc.out)
  have LTd := Lib.hid (fun g hg => (dgown_block (show w6.ownsRow _ _ 4 x0 _ _ from ho) g hg).2)
  obtain ⟨wd, hwd⟩ : ∃ wd, wd = w6.heap.size := ⟨_, rfl⟩
  simp only [← hwd] at LTd
  replace AC := Lib.hid (Below.next AC.out hb)
  replace O0 := Lib.hid (O0.out.below hb)
  replace CC := Lib.hid (Below.next CC.out hb)
  replace Zc := Lib.hid (Nat.le_trans Zc.out hb.size)
  clear ho hb
  have Zd := Lib.hid (show wd ≤ w6.heap.size by rw [hwd]; exact Nat.le_refl _)
  have CWD := Lib.hid (show wc.heap.size ≤ wd by rw [hwd]; exact Zc.out)
  clear hwd
  go_wp2_with (go_at_call 39; (refine (TP.out _ (G2.out.below AC.out)).mono ?_); rintro e w7 ⟨x1, rfl, ho, hb⟩; refine Hid.out ?_)
  refine Lib.hid ?_
  have E1 := Lib.hid (show OwnPt w7 wd x1 qs from OwnPt.mono ho Zd.out)
  have LTp := Lib.hid (fun g hg => (dgown_block (show w7.ownsRow _ _ 2 x1 _ _ from ho) g hg).2)
  obtain ⟨we, hwe⟩ : ∃ we, we = w7.heap.size := ⟨_, rfl⟩
  simp only [← hwe] at LTp
  replace AC := Lib.hid (Below.next AC.out hb)
  replace O0 := Lib.hid (O0.out.below hb)
  replace CC := Lib.hid (Below.next CC.out hb)
  replace Zc := Lib.hid (Nat.le_trans Zc.out hb.size)
  replace D1 := Lib.hid (D1.out.below hb)
  replace Zd := Lib.hid (Nat.le_trans Zd.out hb.size)
  clear ho hb
  have Ze := Lib.hid (show we ≤ w7.heap.size by rw [hwe]; exact Nat.le_refl _)
  have Wde := Lib.hid (show wd ≤ we by rw [hwe]; exact Zd.out)
  have WCD := Lib.hid (show wc.heap.size ≤ wd from CWD.out)
  have Wcd := Lib.hid (show wc.heap.size ≤ we by rw [hwe]; exact Zc.out)
  clear hwe
  go_wp2_with (go_at_call 43; (refine (IM.out _ _ _ D1.out.are (E1.out.ptsc hl2)).mono ?_); rintro e w8 ⟨v2, rfl, ho, hb⟩; refine Hid.out ?_)
  refine Lib.hid ?_
  have O2 := Lib.hid (show OwnSO w8 we v2 L from OwnSO.mono ho Ze.out)
  replace AC := Lib.hid (Below.next AC.out hb)
  replace O0 := Lib.hid (O0.out.below hb)
  replace CC := Lib.hid (Below.next CC.out hb)
  replace D1 := Lib.hid (D1.out.below hb)
  replace E1 := Lib.hid (E1.out.below hb)
  replace Ze := Lib.hid (Nat.le_trans Ze.out hb.size)
  clear ho hb Zc Zd
  go_wp2_with (go_at_call 34; (refine (ES.out _ _ _ _ _ O2.out O0.out).mono ?_); rintro e w9 ⟨rfl, n9, rfl⟩; refine Hid.out ?_)
  refine Lib.hid ?_
  have hb := dN_below w8 n9
  replace AC := Lib.hid (Below.next AC.out hb)
  replace O0 := Lib.hid (O0.out.below hb)
  replace CC := Lib.hid (Below.next CC.out hb)
  replace D1 := Lib.hid (D1.out.below hb)
  replace E1 := Lib.hid (E1.out.below hb)
  replace Ze := Lib.hid (Nat.le_trans Ze.out hb.size)
  replace O2 := Lib.hid (O2.out.below hb)
  clear hb
  obtain ⟨w9, hw9⟩ : ∃ w', w' = World.drewN w8 n9 := ⟨_, rfl⟩
  rw [← hw9] at AC O0 CC D1 E1 Ze O2 ⊢
  clear hw9
  go_wp2_with (go_at_call 25; (refine (T.out _ (G1.out.arg.below AC.out)).mono ?_); rintro e w10 ⟨v3, rfl, ho, hb⟩; refine Hid.out ?_)
  refine Lib.hid ?_
  have D3 := Lib.hid ho.are
  replace AC := Lib.hid (Below.next AC.out hb)
  replace O0 := Lib.hid (O0.out.below hb)
  replace CC := Lib.hid (Below.next CC.out hb)
  replace D1 := Lib.hid (D1.out.below hb)
  replace E1 := Lib.hid (E1.out.below hb)
  replace Ze := Lib.hid (Nat.le_trans Ze.out hb.size)
  replace O2 := Lib.hid (O2.out.below hb)
  clear ho hb
  go_wp2_with (go_at_call 27; (refine (EQ.out _ _ _ D1.out.are D3.out).mono ?_); rintro e w11 ⟨rfl, hb⟩; refine Hid.out ?_)
  refine Lib.hid ?_
  replace AC := Lib.hid (Below.next AC.out hb)
  replace O0 := Lib.hid (O0.out.below hb)
  replace CC := Lib.hid (Below.next CC.out hb)
  replace D1 := Lib.hid (D1.out.below hb)
  replace E1 := Lib.hid (E1.out.below hb)
  replace Ze := Lib.hid (Nat.le_trans Ze.out hb.size)
  replace O2 := Lib.hid (O2.out.below hb)
  clear D3 hb
  go_wp2_with (go_at_call 39; (refine (TP.out _ (G2.out.below AC.out)).mono ?_); rintro e w12 ⟨v4, rfl, ho, hb⟩; refine Hid.out ?_)
  refine Lib.hid ?_
  have E3 := Lib.hid ((show OwnPt w12 _ v4 qs from ho).pts hl2)
  obtain ⟨b4, e4, rfl⟩ := (show OwnPt w12 _ v4 qs from ho).form
  obtain ⟨b1, e1, hx1⟩ := E1.out.form
  subst hx1
  replace AC := Lib.hid (Below.next AC.out hb)
  replace O0 := Lib.hid (O0.out.below hb)
  replace CC := Lib.hid (Below.next CC.out hb)
  replace D1 := Lib.hid (D1.out.below hb)
  replace E1 := Lib.hid (E1.out.below hb)
  replace Ze := Lib.hid (Nat.le_trans Ze.out hb.size)
  replace O2 := Lib.hid (O2.out.below hb)
  clear ho hb
  go_wp2_with (go_at_call 41; (refine (EP.out _ _ _ _ _ (E1.out.pts hl2).are E3.out.are).mono ?_); rintro e w13 ⟨rfl, hb⟩; refine Hid.out ?_)
  refine Lib.hid ?_
  replace AC := Lib.hid (Below.next AC.out hb)
  replace O0 := Lib.hid (O0.out.below hb)
  replace CC := Lib.hid (Below.next CC.out hb)
  replace D1 := Lib.hid (D1.out.below hb)
  replace E1 := Lib.hid (E1.out.below hb)
  replace Ze := Lib.hid (Nat.le_trans Ze.out hb.size)
  replace O2 := Lib.hid (O2.out.below hb)
  clear E3 hb
  have GE1 := Lib.hid (fun g hg => (dgown_block D1.out g hg).1)
  have GEp := Lib.hid (fun g hg => (dgown_block E1.out g hg).1)
  have GE2 := Lib.hid (fun g hg => (dgown_block (show World.ownsRow _ _ _ 1 v2 _ _ from O2.out) g hg).1)
  have LT0w := Lib.hid (fun g hg => LT0.out g hg)
  have HMK := Lib.hid (MK.out w13 x0 wc.heap.size CC.out.size D1.out)
  clear MK
  go_wp2_with (go_at_call 30; (refine HMK.out.mono ?_); rintro e w14 ⟨rfl, hb, hon⟩; refine Hid.out ?_)
  refine Lib.hid ?_
  replace O2 := Lib.hid (show OwnSO w14 we v2 L from hon.ownlt (fun g hg g2 hg2 e => by have h1 := LTd.out g hg; have h2 := GE2.out g2 hg2; have h3 := Wde.out; omega) O2.out)
  replace O0 := Lib.hid (show OwnSO w14 w.heap.size v0 L from hon.ownlt (fun g hg g2 hg2 e => by have h1 := GE1.out g hg; have h2 := LT0.out g2 hg2; omega) O0.out)
  replace E1 := Lib.hid (show OwnPt w14 wd (.slice b1 qs.length e1) qs from hon.ownlt (fun g hg g2 hg2 e => by have h1 := LTd.out g hg; have h2 := GEp.out g2 hg2; omega) E1.out)
  replace AC := Lib.hid (AC.out.trans (hb.mono WC.out))
  replace Ze := Lib.hid (Nat.le_trans Ze.out hon.1)
  clear hb hon D1 HMK CC
  have HMP := Lib.hid (MP.out w14 (.slice b1 qs.length e1) wd E1.out)
  clear MP
  go_wp2_with (go_at_call 44; (refine HMP.out.mono ?_); rintro e w15 ⟨rfl, hb, hon⟩; refine Hid.out ?_)
  refine Lib.hid ?_
  replace O2 := Lib.hid (show OwnSO w15 we v2 L from hon.ownlt (fun g hg g2 hg2 e => by have h1 := LTp.out g hg; have h2 := GE2.out g2 hg2; omega) O2.out)
  replace O0 := Lib.hid (show OwnSO w15 w.heap.size v0 L from hon.ownlt (fun g hg g2 hg2 e => by have h1 := GEp.out g hg; have h2 := LT0.out g2 hg2; have h3 := WCD.out; omega) O0.out)
  replace AC := Lib.hid (AC.out.trans (hb.mono (Nat.le_trans WC.out WCD.out)))
  replace Ze := Lib.hid (Nat.le_trans Ze.out hon.1)
  clear hb hon E1 HMP
  go_wp2_with (go_at_call 34; (refine (ES.out _ _ _ _ _ O2.out O0.out).mono ?_); rintro e w16 ⟨rfl, n16, rfl⟩; refine Hid.out ?_)
  refine Lib.hid ?_
  have hb := dN_below w15 n16
  replace AC := Lib.hid (Below.next AC.out hb)
  replace O0 := Lib.hid (O0.out.below hb)
  replace Ze := Lib.hid (Nat.le_trans Ze.out hb.size)
  replace O2 := Lib.hid (O2.out.below hb)
  clear hb
  obtain ⟨w16, hw16⟩ : ∃ w', w' = World.drewN w15 n16 := ⟨_, rfl⟩
  rw [← hw16] at AC O0 Ze O2 ⊢
  clear hw16
  have HMT := Lib.hid (MT.out w16 v2 we Ze.out O2.out)
  have HHT := Lib.hid (fun w' h => HT.out w' v2 we h)
  clear MT HT O2
  go_wp2_with (go_at_call 35; (refine HMT.out.mono ?_); rintro e w17 ⟨rfl, ho, hb⟩; refine Hid.out ?_)
  refine Lib.hid ?_
  have M2 := Lib.hid ho
  replace O0 := Lib.hid (show OwnSO w17 w.heap.size v0 L from ownlow_below O0.out hb (fun g hg => by have h1 := LT0.out g hg; have h2 := Wcd.out; omega))
  replace AC := Lib.hid (AC.out.trans (hb.mono (Nat.le_trans WC.out Wcd.out)))
  clear ho hb HMT Ze
  go_wp2_with (go_at_call 36; (refine (HHT.out _ M2.out).mono ?_); rintro e w18 ⟨rfl, hb⟩; refine Hid.out ?_)
  refine Lib.hid ?_
  replace AC := Lib.hid (Below.next AC.out hb)
  replace O0 := Lib.hid (O0.out.below hb)
  replace M2 := Lib.hid (own_below M2.out hb)
  clear hb
  go_wp2_with (go_at_call 25; (refine (T.out _ (G1.out.arg.below AC.out)).mono ?_); rintro e w19 ⟨v5, rfl, ho, hb⟩; refine Hid.out ?_)
  refine Lib.hid ?_
  have S1 := Lib.hid ho.are
  replace AC := Lib.hid (Below.next AC.out hb)
  replace O0 := Lib.hid (O0.out.below hb)
  replace M2 := Lib.hid (own_below M2.out hb)
  clear ho hb
  go_wp2_with (go_at_call 39; (refine (TP.out _ (G2.out.below AC.out)).mono ?_); rintro e w20 ⟨v6, rfl, ho, hb⟩; refine Hid.out ?_)
  refine Lib.hid ?_
  have Q1 := Lib.hid ((show OwnPt w20 _ v6 qs from ho).ptsc hl2)
  replace AC := Lib.hid (Below.next AC.out hb)
  replace O0 := Lib.hid (O0.out.below hb)
  replace M2 := Lib.hid (own_below M2.out hb)
  replace S1 := Lib.hid (S1.out.below hb)
  clear ho hb
  go_wp2_with (go_at_call 43; (refine (IM.out _ _ _ S1.out Q1.out).mono ?_); rintro e w21 ⟨v7, rfl, ho, hb⟩; refine Hid.out ?_)
  refine Lib.hid ?_
  have O3 := Lib.hid (show OwnSO w21 w.heap.size v7 L from OwnSO.mono ho AC.out.size)
  replace AC := Lib.hid (Below.next AC.out hb)
  replace O0 := Lib.hid (O0.out.below hb)
  replace M2 := Lib.hid (own_below M2.out hb)
  clear ho hb S1 Q1
  go_wp2_with (go_at_call 34; (refine (ES.out _ _ _ _ _ O3.out O0.out).mono ?_); rintro e w22 ⟨rfl, n22, rfl⟩; refine Hid.out ?_)
  refine Lib.hid ?_
  have hb := dN_below w21 n22
  replace AC := Lib.hid (Below.next AC.out hb)
  replace M2 := Lib.hid (own_below M2.out hb)
  clear hb
  obtain ⟨w22, hw22⟩ : ∃ w', w' = World.drewN w21 n22 := ⟨_, rfl⟩
  rw [← hw22] at AC M2 ⊢
  clear hw22
  go_wp2_with (go_at_call 36; (refine (HHT.out _ M2.out).mono ?_); rintro e w23 ⟨rfl, hb⟩; refine Hid.out ?_)
  refine Lib.hid ?_
  replace AC := Lib.hid (Below.next AC.out hb)
  clear hb
  go_wp2
  go_ret
  exact ⟨rfl, AC.out⟩
end Go.Proofs.Ythccbipjmheoaaa
