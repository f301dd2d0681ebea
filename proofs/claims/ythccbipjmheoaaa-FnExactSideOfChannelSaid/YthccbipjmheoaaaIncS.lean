/- In a channel, the side of a channel: the model's words. -/
import Derived.Test.YthccbipjmheoaaaIncI
import Derived.Test.YthccbipjmheoaaaNearS
import Derived.Test.YthccbipjmheoaaaSideS
import Derived.Test.YthccbipjmheoaaaChnW
namespace Go.Proofs.Ythccbipjmheoaaa
open Go.ChangeShapes Go.WideShapes Go.ChangeAt Go.RowKit Pm

set_option maxRecDepth 100000 in
set_option maxHeartbeats 2000000 in
theorem sinchannel_any (s : ByteArray) (z : Int) (v : Value) (ps : Pts) (qx qy : Int) (w : World) (hs : s.size ≤ maxLen) (hm : ps.length ≤ 1048576) (h : PtsL w v ps) :
    Calls Try.prog 12 #[.agg #[.string s, v, .int .i64 z], .agg #[.int .i64 qx, .int .i64 qy]] w fun e w' => e = .returned (.bool (inCh s ps z (qx, qy))) ∧ Below w.heap.size w w' := by
  have HV := fun b w' h1 h2 => sokchn_any b s z v ps w' hs hm h1 h2
  have HO := fun w' => sok_any qx qy w'
  have HP := Lib.hid h
  obtain ⟨a, c, rfl⟩ := pts_len h
  have CH := Lib.hid (show ChnAt (ChP w s (.slice a ps.length c) z qx qy) w.heap.size s (.slice a ps.length c) z from (ChnAt.new s (.slice a ps.length c) z _ rfl).below ((Below.refl _ _).alloc (Nat.le_refl _) _))
  cases hk : okC s ps z
  · rw [hk] at HV
    have HV := Lib.hid HV
    have HR := Lib.hid (inch_no (q := (qx, qy)) hk)
    rw [HR.out]
    clear h hk HO HR
    go_enter Try.func12, Try.ntmps12
    go_wp2_with (go_at_call 45; (refine (HV.out _ _ (HP.out.below (by go_grown)) CH.out).mono ?_); rintro e w1 ⟨rfl, hb⟩; have AC := Lib.hid (Below.next (a := w) (by go_grown) hb); clear hb)
    go_ret
    exact ⟨rfl, AC.out⟩
  · rw [hk] at HV
    have HV := Lib.hid HV
    obtain ⟨_, h2, h12, hok, hz1, hz2, hst⟩ := okC_parts hk
    cases hq : inB 0 200000 [qx, qy]
    · rw [hq] at HO
      have HO := Lib.hid HO
      have HR := Lib.hid (inch_out (s := s) (ps := ps) (z := z) (q := (qx, qy)) hq)
      rw [HR.out]
      clear h hk hq HR
      go_enter Try.func12, Try.ntmps12
      go_wp2_with (first
        | (go_at_call 45; (refine (HV.out _ _ (HP.out.below (by go_grown)) CH.out).mono ?_); rintro e w1 ⟨rfl, hb⟩; have p0 := cell_below (a := ⟨w.heap.size + 1, 0, none⟩) (v := .int .i64 qx) (by go_cell) hb; have p1 := cell_below (a := ⟨w.heap.size + 1, 1, none⟩) (v := .int .i64 qy) (by go_cell) hb; have AC := Lib.hid (Below.next (a := w) (by go_grown) hb); clear hb)
        | (go_at_call 46; (refine (HO.out _).mono ?_); rintro e w2 ⟨rfl, hb⟩; have AC2 := Lib.hid (Below.next AC.out hb); clear hb))
      go_ret
      exact ⟨rfl, AC2.out⟩
    · rw [hq] at HO
      have HO := Lib.hid HO
      have HR := Lib.hid (inch_in hk (show inB 0 200000 [(qx, qy).1, (qx, qy).2] = true from hq))
      have HN := Lib.hid (fun w' h => snearest_any (.slice a ps.length c) ps (qx, qy) w' h2 h12 hok hq h)
      have hh := half_w hz1 hz2
      have hw : IntKind.i64.wrap (Int.tdiv z 2) = Int.tdiv z 2 := IntWalk.i64_in _ (by omega)
      rw [HR.out]
      clear h hk hq hok hst HR
      generalize gS ps (qx, qy) (nearUp ps (qx, qy) (ps.length - 2)) = G at *
      generalize nearUp ps (qx, qy) (ps.length - 2) = j at *
      go_enter Try.func12, Try.ntmps12
      go_wp2_with (first
        | (go_at_call 45; (refine (HV.out _ _ (HP.out.below (by go_grown)) CH.out).mono ?_); rintro e w1 ⟨rfl, hb⟩; have x1 := cell_below (a := ⟨w.heap.size, 1, none⟩) (v := .slice a ps.length c) (by go_cell) hb; have x2 := cell_below (a := ⟨w.heap.size, 2, none⟩) (v := .int .i64 z) (by go_cell) hb; have p0 := cell_below (a := ⟨w.heap.size + 1, 0, none⟩) (v := .int .i64 qx) (by go_cell) hb; have p1 := cell_below (a := ⟨w.heap.size + 1, 1, none⟩) (v := .int .i64 qy) (by go_cell) hb; have AC := Lib.hid (Below.next (a := w) (by go_grown) hb); clear hb)
        | (go_at_call 46; (refine (HO.out _).mono ?_); rintro e w2 ⟨rfl, hb⟩; have y1 := cell_below x1 hb; have y2 := cell_below x2 hb; have q0 := cell_below p0 hb; have q1 := cell_below p1 hb; have AC2 := Lib.hid (Below.next AC.out hb); clear hb)
        | (go_at_call 47; (refine (HN.out _ (HP.out.below AC2.out)).mono ?_); rintro e w3 ⟨rfl, hb⟩; have z2 := cell_below y2 hb; have AC3 := Lib.hid (Below.next AC2.out hb); clear hb))
      go_ret
      exact ⟨rfl, AC3.out⟩
set_option maxRecDepth 100000 in
set_option maxHeartbeats 2000000 in
theorem ssidechn_any (b : Nat) (s : ByteArray) (z : Int) (v : Value) (ps : Pts) (qx qy : Int) (w : World) (h2 : 2 ≤ ps.length) (h12 : ps.length ≤ 12) (hok : ∀ i, i < ps.length → okB (ps.getD i (0, 0)) = true) (hq : inB 0 200000 [qx, qy] = true) (hc : ChnAt w b s v z) (h : PtsC w v ps) :
    Calls Try.prog 52 #[.pointer (some ⟨b, 0, none⟩), .agg #[.int .i64 qx, .int .i64 qy]] w fun e w' => e = .returned (.int .i64 (sdN ps (qx, qy))) ∧ Below w.heap.size w w' := by
  have HN := Lib.hid (fun w' h => snearest_any v ps (qx, qy) w' h2 h12 hok hq h)
  have HPL := Lib.hid h.1
  have hjl := nearUp_le ps (qx, qy) (ps.length - 2)
  obtain ⟨j, hj⟩ : ∃ j, j = nearUp ps (qx, qy) (ps.length - 2) := ⟨_, rfl⟩
  rw [← hj] at HN hjl
  obtain ⟨R, hR⟩ : ∃ R, R = sdN ps (qx, qy) := ⟨_, rfl⟩
  obtain ⟨bb, off, cap, rfl, hcap, hp⟩ := h.cells (by omega)
  have o1 := hok j (by omega)
  have o2 := hok (j + 1) (by omega)
  have HD := Lib.hid (fun w' => sside_any (ps.getD j (0, 0)).1 (ps.getD j (0, 0)).2 (ps.getD (j + 1) (0, 0)).1 (ps.getD (j + 1) (0, 0)).2 qx qy w' (by unfold allOk3; rw [show okB ((ps.getD j (0, 0)).1, (ps.getD j (0, 0)).2) = true from o1, show okB ((ps.getD (j + 1) (0, 0)).1, (ps.getD (j + 1) (0, 0)).2) = true from o2, show okB (qx, qy) = true from hq]; rfl))
  rw [show sideR (ps.getD j (0, 0)).1 (ps.getD j (0, 0)).2 (ps.getD (j + 1) (0, 0)).1 (ps.getD (j + 1) (0, 0)).2 qx qy = R by rw [hR]; unfold sdN; rw [← hj]] at HD
  rw [← hR]
  have d0 := (hp j (by omega)).1
  have d1 := (hp j (by omega)).2
  obtain ⟨k, hk⟩ : ∃ k, k = j + 1 := ⟨_, rfl⟩
  have d2 := (hp k (by omega)).1
  have d3 := (hp k (by omega)).2
  rw [← hk] at HN HD
  have hkn : (k : Int) < (ps.length : Int) := by omega
  have hjn : (j : Int) < (ps.length : Int) := by omega
  have hidw : IntKind.i64.wrap ((k : Int) - 1) = (j : Int) := by rw [show (k : Int) - 1 = (j : Int) by omega]; exact IntWalk.i64_in _ (by omega)
  have hk0 : (0 : Int) ≤ (k : Int) := by omega
  have hj0 : (0 : Int) ≤ (j : Int) := by omega
  obtain ⟨x0, x1, x2⟩ := hc
  generalize gS ps (qx, qy) j = G at *
  generalize (ps.getD j (0, 0)).1 = e0 at *
  generalize (ps.getD j (0, 0)).2 = e1 at *
  generalize (ps.getD k (0, 0)).1 = e2 at *
  generalize (ps.getD k (0, 0)).2 = e3 at *
  clear hp hj hR hok o1 o2 hq h hjl hk
  obtain ⟨S, hcl, hS0, kR⟩ := clxG12 (w := w.alloc (.cells #[.int .i64 qx, .int .i64 qy] 33)) (fun w' => w'.cell? ⟨b, 1, none⟩ = some (.slice (some ⟨bb, off, none⟩) ps.length cap) ∧ w'.cell? ⟨bb, off + j * 2, none⟩ = some (.int .i64 e0) ∧ w'.cell? ⟨bb, off + j * 2 + 1, none⟩ = some (.int .i64 e1) ∧ w'.cell? ⟨bb, off + k * 2, none⟩ = some (.int .i64 e2) ∧ w'.cell? ⟨bb, off + k * 2 + 1, none⟩ = some (.int .i64 e3) ∧ w'.cell? ⟨w.heap.size, 0, none⟩ = some (.int .i64 qx) ∧ w'.cell? ⟨w.heap.size, 1, none⟩ = some (.int .i64 qy) ∧ Below w.heap.size w w') (fun _ _ ⟨x0, x1, x2, x3, x4, x5, x6, x7⟩ hb => ⟨cell_below x0 hb, cell_below x1 hb, cell_below x2 hb, cell_below x3 hb, cell_below x4 hb, cell_below x5 hb, cell_below x6 hb, Below.next x7 hb⟩) (by
    have ac := (Below.refl w.heap.size w).alloc (Nat.le_refl _) (.cells #[.int .i64 qx, .int .i64 qy] 33)
    exact ⟨cell_below x1 ac, cell_below d0 ac, cell_below d1 ac, cell_below d2 ac, cell_below d3 ac, by simp, by simp, ac⟩)
  have m0 := fun p : Clx S => (kR p).1
  have m1 := fun p : Clx S => (kR p).2.1
  have m2 := fun p : Clx S => (kR p).2.2.1
  have m3 := fun p : Clx S => (kR p).2.2.2.1
  have m4 := fun p : Clx S => (kR p).2.2.2.2.1
  have m5 := fun p : Clx S => (kR p).2.2.2.2.2.1
  have m6 := fun p : Clx S => (kR p).2.2.2.2.2.2.1
  have KB := Lib.hid (fun p : Clx S => (kR p).2.2.2.2.2.2.2)
  have hnS : Nonempty (Clx S) := ⟨⟨_, hS0⟩⟩
  clear kR x0 x1 x2 d0 d1 d2 d3
  go_enter Try.func52, Try.ntmps52
  go_wp2_with (fail)
  refine wp_region_clx S (by kernel_rfl) (by kernel_rfl) hS0 ?_
  repeat (go_big_quiet_step ((go_at_call 47; exact Clx.call hcl _ (HN.out _ (HPL.out.below (KB.out _))))))
  refine wpQuiet_nil ?_
  intro _ hw'
  obtain ⟨p, rfl⟩ := hw'
  have HP := Lib.hid p.h
  go_wp2_with (fail)
  refine wp_region_clx S (by kernel_rfl) (by kernel_rfl) (hcl _ _ HP.out (Below.refl _ _).drew) ?_
  repeat (go_big_quiet_step ((go_at_call 89; exact Clx.call hcl _ (HD.out _))))
  refine wpQuiet_nil ?_
  intro _ hw'
  obtain ⟨p, rfl⟩ := hw'
  have HB2 := Lib.hid (KB.out p)
  go_wp2
  go_ret
  exact ⟨rfl, HB2.out⟩
set_option maxRecDepth 100000 in
set_option maxHeartbeats 2000000 in
theorem ssideofchn_any (s : ByteArray) (z : Int) (v : Value) (ps : Pts) (qx qy : Int) (w : World) (hs : s.size ≤ maxLen) (hm : ps.length ≤ 1048576) (h : PtsC w v ps) :
    Calls Try.prog 17 #[.agg #[.string s, v, .int .i64 z], .agg #[.int .i64 qx, .int .i64 qy]] w fun e w' => e = .returned (.tuple #[.int .i64 (sdC s ps z (qx, qy)), .int .i64 (sdE s ps z (qx, qy))]) ∧ Below w.heap.size w w' := by
  have HV := fun b w' (h : PtsC w' v ps) h2 => sokchn_any b s z v ps w' hs hm h.1 h2
  have HO := fun w' => sok_any qx qy w'
  have HP := Lib.hid h
  obtain ⟨a, c, rfl⟩ := pts_len h.1
  have CH := Lib.hid (show ChnAt (ChP w s (.slice a ps.length c) z qx qy) w.heap.size s (.slice a ps.length c) z from (ChnAt.new s (.slice a ps.length c) z _ rfl).below ((Below.refl _ _).alloc (Nat.le_refl _) _))
  cases hk : okC s ps z
  · rw [hk] at HV
    have HV := Lib.hid HV
    obtain ⟨e1, e2⟩ := sd_no (q := (qx, qy)) hk
    rw [e1, e2]
    clear h hk HO e1 e2
    go_enter Try.func17, Try.ntmps17
    go_wp2_with (go_at_call 45; (refine (HV.out _ _ (HP.out.below (by go_grown)) CH.out).mono ?_); rintro e w1 ⟨rfl, hb⟩; have AC := Lib.hid (Below.next (a := w) (by go_grown) hb); clear hb)
    refine bodyPost_ret (v := .tuple #[.int .i64 0, .int .i64 1]) (by simp [results, Try.results17, go_sem, *]) rfl ⟨rfl, AC.out⟩
  · rw [hk] at HV
    have HV := Lib.hid HV
    obtain ⟨_, h2, h12, hok, hz1, hz2, hst⟩ := okC_parts hk
    cases hq : inB 0 200000 [qx, qy]
    · rw [hq] at HO
      have HO := Lib.hid HO
      obtain ⟨e1, e2⟩ := sd_out (s := s) (ps := ps) (z := z) (q := (qx, qy)) hq
      rw [e1, e2]
      clear h hk hq e1 e2
      go_enter Try.func17, Try.ntmps17
      go_wp2_with (first
        | (go_at_call 45; (refine (HV.out _ _ (HP.out.below (by go_grown)) CH.out).mono ?_); rintro e w1 ⟨rfl, hb⟩; have p0 := cell_below (a := ⟨w.heap.size + 1, 0, none⟩) (v := .int .i64 qx) (by go_cell) hb; have p1 := cell_below (a := ⟨w.heap.size + 1, 1, none⟩) (v := .int .i64 qy) (by go_cell) hb; have AC := Lib.hid (Below.next (a := w) (by go_grown) hb); clear hb)
        | (go_at_call 46; (refine (HO.out _).mono ?_); rintro e w2 ⟨rfl, hb⟩; have AC2 := Lib.hid (Below.next AC.out hb); clear hb))
      refine bodyPost_ret (v := .tuple #[.int .i64 0, .int .i64 1]) (by simp [results, Try.results17, go_sem, *]) rfl ⟨rfl, AC2.out⟩
    · rw [hq] at HO
      have HO := Lib.hid HO
      have HD := Lib.hid (fun b w' h1 h => ssidechn_any b s z (.slice a ps.length c) ps qx qy w' h2 h12 hok hq h1 h)
      obtain ⟨e1, e2⟩ := sd_in hk (show inB 0 200000 [(qx, qy).1, (qx, qy).2] = true from hq)
      rw [e1, e2]
      clear h hk hq e1 e2 hok hst
      generalize sdN ps (qx, qy) = R at *
      go_enter Try.func17, Try.ntmps17
      go_wp2_with (first
        | (go_at_call 45; (refine (HV.out _ _ (HP.out.below (by go_grown)) CH.out).mono ?_); rintro e w1 ⟨rfl, hb⟩; have CH1 := Lib.hid (CH.out.below hb); have p0 := cell_below (a := ⟨w.heap.size + 1, 0, none⟩) (v := .int .i64 qx) (by go_cell) hb; have p1 := cell_below (a := ⟨w.heap.size + 1, 1, none⟩) (v := .int .i64 qy) (by go_cell) hb; have AC := Lib.hid (Below.next (a := w) (by go_grown) hb); clear hb)
        | (go_at_call 46; (refine (HO.out _).mono ?_); rintro e w2 ⟨rfl, hb⟩; have CH2 := Lib.hid (CH1.out.below hb); have q0 := cell_below p0 hb; have q1 := cell_below p1 hb; have AC2 := Lib.hid (Below.next AC.out hb); clear hb)
        | (go_at_call 52; (refine (HD.out _ _ CH2.out (HP.out.below AC2.out)).mono ?_); rintro e w3 ⟨rfl, hb⟩; have AC3 := Lib.hid (Below.next AC2.out hb); clear hb))
      refine bodyPost_ret (v := .tuple #[.int .i64 R, .int .i64 0]) (by simp [results, Try.results17, go_sem, *]) rfl ⟨rfl, AC3.out⟩
end Go.Proofs.Ythccbipjmheoaaa
