/- In a channel, the side of a channel: what they are; the program's words. -/
import Derived.Test.YthccbipjmheoaaaNearT
import Derived.Test.YthccbipjmheoaaaSide
namespace Go.Proofs.Ythccbipjmheoaaa
open Go.ChangeShapes Go.WideShapes Go.ChangeAt Go.RowKit Pm

/-- Is a point in a channel? -/
noncomputable def inCh (s : ByteArray) (ps : Pts) (z : Int) (q : Int × Int) : Bool := okC s ps z && (inB 0 200000 [q.1, q.2] && decide (gS ps q (nearUp ps q (ps.length - 2)) ≤ Int.tdiv z 2))
/-- The side of the nearest segment. -/
noncomputable def sdN (ps : Pts) (q : Int × Int) : Int := sideR (ps.getD (nearUp ps q (ps.length - 2)) (0, 0)).1 (ps.getD (nearUp ps q (ps.length - 2)) (0, 0)).2 (ps.getD (nearUp ps q (ps.length - 2) + 1) (0, 0)).1 (ps.getD (nearUp ps q (ps.length - 2) + 1) (0, 0)).2 q.1 q.2
noncomputable def sdC (s : ByteArray) (ps : Pts) (z : Int) (q : Int × Int) : Int := if (okC s ps z && inB 0 200000 [q.1, q.2]) = true then sdN ps q else 0
noncomputable def sdE (s : ByteArray) (ps : Pts) (z : Int) (q : Int × Int) : Int := if (okC s ps z && inB 0 200000 [q.1, q.2]) = true then 0 else 1
theorem inch_no {s : ByteArray} {ps : Pts} {z : Int} {q : Int × Int} (h : okC s ps z = false) : inCh s ps z q = false := by unfold inCh; rw [h]; rfl
theorem inch_out {s : ByteArray} {ps : Pts} {z : Int} {q : Int × Int} (h : inB 0 200000 [q.1, q.2] = false) : inCh s ps z q = false := by unfold inCh; rw [h]; simp
theorem inch_in {s : ByteArray} {ps : Pts} {z : Int} {q : Int × Int} (h : okC s ps z = true) (hq : inB 0 200000 [q.1, q.2] = true) : inCh s ps z q = decide (gS ps q (nearUp ps q (ps.length - 2)) ≤ Int.tdiv z 2) := by unfold inCh; rw [h, hq]; simp
theorem sd_no {s : ByteArray} {ps : Pts} {z : Int} {q : Int × Int} (h : okC s ps z = false) : sdC s ps z q = 0 ∧ sdE s ps z q = 1 := by unfold sdC sdE; rw [h]; exact ⟨rfl, rfl⟩
theorem sd_out {s : ByteArray} {ps : Pts} {z : Int} {q : Int × Int} (h : inB 0 200000 [q.1, q.2] = false) : sdC s ps z q = 0 ∧ sdE s ps z q = 1 := by unfold sdC sdE; rw [h]; simp
theorem sd_in {s : ByteArray} {ps : Pts} {z : Int} {q : Int × Int} (h : okC s ps z = true) (hq : inB 0 200000 [q.1, q.2] = true) : sdC s ps z q = sdN ps q ∧ sdE s ps z q = 0 := by unfold sdC sdE; rw [h, hq]; exact ⟨rfl, rfl⟩

theorem clxG12 {w : World} (R : World → Prop) (hR : ∀ w1 w2, R w1 → Below w1.heap.size w1 w2 → R w2) (h : R w) : ∃ S : World → Prop, (∀ w1 w2, S w1 → Below w1.heap.size w1 w2 → S w2) ∧ S w.drew ∧ ∀ p : Clx S, R p.v :=
  ⟨R, hR, hR _ _ h (Below.refl _ _).drew, fun p => p.h⟩
/-- A channel and a point laid on top of a world. -/
abbrev ChP (w : World) (s : ByteArray) (v : Value) (z qx qy : Int) : World := (w.alloc (.cells #[.string s, v, .int .i64 z] 31)).alloc (.cells #[.int .i64 qx, .int .i64 qy] 33)
theorem chp_class {w : World} {s : ByteArray} {v : Value} {ps : Pts} {z qx qy : Int} (h : PtsC w v ps) :
    ∃ S : World → Prop, (∀ w1 w2, S w1 → Below w1.heap.size w1 w2 → S w2) ∧ S (ChP w s v z qx qy).drew ∧ (∀ p : Clx S, p.v.cell? ⟨w.heap.size, 0, none⟩ = some (.string s)) ∧ (∀ p : Clx S, p.v.cell? ⟨w.heap.size, 1, none⟩ = some v) ∧ (∀ p : Clx S, p.v.cell? ⟨w.heap.size, 2, none⟩ = some (.int .i64 z)) ∧ (∀ p : Clx S, p.v.cell? ⟨w.heap.size + 1, 0, none⟩ = some (.int .i64 qx)) ∧ (∀ p : Clx S, p.v.cell? ⟨w.heap.size + 1, 1, none⟩ = some (.int .i64 qy)) ∧ (∀ p : Clx S, PtsC p.v v ps) ∧ ∀ p : Clx S, Below w.heap.size w p.v := by
  obtain ⟨S, h1, h2, h3⟩ := clxG12 (w := ChP w s v z qx qy) (fun w' => w'.cell? ⟨w.heap.size, 0, none⟩ = some (.string s) ∧ w'.cell? ⟨w.heap.size, 1, none⟩ = some v ∧ w'.cell? ⟨w.heap.size, 2, none⟩ = some (.int .i64 z) ∧ w'.cell? ⟨w.heap.size + 1, 0, none⟩ = some (.int .i64 qx) ∧ w'.cell? ⟨w.heap.size + 1, 1, none⟩ = some (.int .i64 qy) ∧ PtsC w' v ps ∧ Below w.heap.size w w') (fun _ _ ⟨x0, x1, x2, x3, x4, x5, x6⟩ hb => ⟨cell_below x0 hb, cell_below x1 hb, cell_below x2 hb, cell_below x3 hb, cell_below x4 hb, x5.below hb, Below.next x6 hb⟩)
    ⟨by go_cell, by go_cell, by go_cell, by go_cell, by go_cell, h.below (by go_grown), by go_grown⟩
  exact ⟨S, h1, h2, fun p => (h3 p).1, fun p => (h3 p).2.1, fun p => (h3 p).2.2.1, fun p => (h3 p).2.2.2.1, fun p => (h3 p).2.2.2.2.1, fun p => (h3 p).2.2.2.2.2.1, fun p => (h3 p).2.2.2.2.2.2⟩
theorem nearest_pts (s : ByteArray) (z : Int) (v : Value) (ps : Pts) (q : Int × Int) (w : World) (h2 : 2 ≤ ps.length) (h12 : ps.length ≤ 12) (h : PtsC w v ps) :
    Calls Try.prog 50 #[.agg #[.string s, v, .int .i64 z], .agg #[.int .i64 q.1, .int .i64 q.2]] w fun e w' => e = .returned (segV ps (nearUp ps q (ps.length - 2))) ∧ Below w.heap.size w w' := by
  obtain ⟨bb, off, cap, rfl, hcap, hp⟩ := h.cells (by omega)
  exact nearest_any bb off cap ps h2 h12 hcap s z q w hp
theorem half_w {z : Int} (h1 : 10 ≤ z) (h2 : z ≤ 5000) : 0 ≤ Int.tdiv z 2 ∧ Int.tdiv z 2 ≤ 2500 := by
  rw [Int.tdiv_eq_ediv_of_nonneg (by omega)]; omega
set_option maxRecDepth 100000 in
set_option maxHeartbeats 2000000 in
theorem inchannel_any (s : ByteArray) (z : Int) (v : Value) (ps : Pts) (qx qy : Int) (w : World) (hs : s.size ≤ maxLen) (hm : ps.length ≤ 1048576) (h : PtsC w v ps) :
    Calls Try.prog 15 #[.agg #[.string s, v, .int .i64 z], .agg #[.int .i64 qx, .int .i64 qy]] w fun e w' => e = .returned (.bool (inCh s ps z (qx, qy))) ∧ Below w.heap.size w w' := by
  have HV := fun w' (h : PtsC w' v ps) => validchn_any s z v ps w' hs hm h.1
  have HO := fun w' => ok_any qx qy w'
  obtain ⟨S, hcl, hS0, k0, k1, k2, k3, k4, kP, kB⟩ := chp_class (s := s) (z := z) (qx := qx) (qy := qy) h
  have hnS : Nonempty (Clx S) := ⟨⟨_, hS0⟩⟩
  obtain ⟨a, c, rfl⟩ := pts_len h.1
  cases hk : okC s ps z
  · rw [hk] at HV
    have HV := Lib.hid HV
    have HR := Lib.hid (inch_no (q := (qx, qy)) hk)
    clear h hk HO
    go_enter Try.func15, Try.ntmps15
    go_wp2_with (fail)
    refine wp_region_clx S (by kernel_rfl) (by kernel_rfl) hS0 ?_
    repeat (go_big_quiet_step ((go_at_call 48; exact Clx.call hcl _ (HV.out _ (kP _)))))
    refine wpQuiet_nil ?_
    intro _ hw'
    obtain ⟨p, rfl⟩ := hw'
    have HB2 := Lib.hid (kB p)
    go_wp2
    go_ret
    exact ⟨retB HR.out.symm, HB2.out⟩
  · rw [hk] at HV
    have HV := Lib.hid HV
    obtain ⟨_, h2, h12, hok, hz1, hz2, hst⟩ := okC_parts hk
    cases hq : inB 0 200000 [qx, qy]
    · rw [hq] at HO
      have HO := Lib.hid HO
      have HR := Lib.hid (inch_out (s := s) (ps := ps) (z := z) (q := (qx, qy)) hq)
      clear h hk hq
      go_enter Try.func15, Try.ntmps15
      go_wp2_with (fail)
      refine wp_region_clx S (by kernel_rfl) (by kernel_rfl) hS0 ?_
      repeat (go_big_quiet_step (first
        | (go_at_call 48; exact Clx.call hcl _ (HV.out _ (kP _)))
        | (go_at_call 49; exact Clx.call hcl _ (HO.out _))))
      refine wpQuiet_nil ?_
      intro _ hw'
      obtain ⟨p, rfl⟩ := hw'
      have HB2 := Lib.hid (kB p)
      go_wp2
      go_ret
      exact ⟨retB HR.out.symm, HB2.out⟩
    · rw [hq] at HO
      have HO := Lib.hid HO
      have HR := Lib.hid (inch_in hk (show inB 0 200000 [(qx, qy).1, (qx, qy).2] = true from hq))
      have HN := Lib.hid (fun w' h => nearest_pts s z (.slice a ps.length c) ps (qx, qy) w' h2 h12 h)
      have HD := Lib.hid (fun w' => disto_any (ps.getD (nearUp ps (qx, qy) (ps.length - 2)) (0, 0)).1 (ps.getD (nearUp ps (qx, qy) (ps.length - 2)) (0, 0)).2 (ps.getD (nearUp ps (qx, qy) (ps.length - 2) + 1) (0, 0)).1 (ps.getD (nearUp ps (qx, qy) (ps.length - 2) + 1) (0, 0)).2 (begV ps (nearUp ps (qx, qy) (ps.length - 2))) (dL ps (nearUp ps (qx, qy) (ps.length - 2))) qx qy w')
      have hh := half_w hz1 hz2
      have hw : IntKind.i64.wrap (Int.tdiv z 2) = Int.tdiv z 2 := IntWalk.i64_in _ (by omega)
      clear h hk hq hok hst
      go_enter Try.func15, Try.ntmps15
      go_wp2_with (fail)
      refine wp_region_clx S (by kernel_rfl) (by kernel_rfl) hS0 ?_
      repeat (go_big_quiet_step (first
        | (go_at_call 48; exact Clx.call hcl _ (HV.out _ (kP _)))
        | (go_at_call 49; exact Clx.call hcl _ (HO.out _))
        | (go_at_call 50; exact Clx.call hcl _ (HN.out _ (kP _)))
        | (go_at_call 51; exact Clx.call hcl _ (HD.out _))))
      refine wpQuiet_nil ?_
      intro _ hw'
      obtain ⟨p, rfl⟩ := hw'
      have HB2 := Lib.hid (kB p)
      go_wp2
      go_ret
      exact ⟨retB (by rw [HR.out]; rfl), HB2.out⟩
set_option maxRecDepth 100000 in
theorem sideofn_any (s : ByteArray) (z : Int) (v : Value) (ps : Pts) (qx qy : Int) (w : World) (h2 : 2 ≤ ps.length) (h12 : ps.length ≤ 12) (h : PtsC w v ps) :
    Calls Try.prog 53 #[.agg #[.string s, v, .int .i64 z], .agg #[.int .i64 qx, .int .i64 qy]] w fun e w' => e = .returned (.int .i64 (sdN ps (qx, qy))) ∧ Below w.heap.size w w' := by
  have HN := Lib.hid (fun w' h => nearest_pts s z v ps (qx, qy) w' h2 h12 h)
  have HP := Lib.hid h
  obtain ⟨j, hj⟩ : ∃ j, j = nearUp ps (qx, qy) (ps.length - 2) := ⟨_, rfl⟩
  have HD := Lib.hid (fun w' => sideof_any (ps.getD j (0, 0)).1 (ps.getD j (0, 0)).2 (ps.getD (j + 1) (0, 0)).1 (ps.getD (j + 1) (0, 0)).2 qx qy w')
  obtain ⟨R, hR⟩ : ∃ R, R = sdN ps (qx, qy) := ⟨_, rfl⟩
  rw [show sideR (ps.getD j (0, 0)).1 (ps.getD j (0, 0)).2 (ps.getD (j + 1) (0, 0)).1 (ps.getD (j + 1) (0, 0)).2 qx qy = R by rw [hR]; unfold sdN; rw [← hj]] at HD
  rw [← hj] at HN
  rw [← hR]
  obtain ⟨a, c, rfl⟩ := pts_len h.1
  unfold segV at HN
  clear h hj hR
  generalize (ps.getD j (0, 0)).1 = x0 at *
  generalize (ps.getD j (0, 0)).2 = y0 at *
  generalize (ps.getD (j + 1) (0, 0)).1 = x1 at *
  generalize (ps.getD (j + 1) (0, 0)).2 = y1 at *
  generalize begV ps j = bg at *
  generalize dL ps j = ln at *
  go_enter Try.func53, Try.ntmps53
  go_wp2_with (go_at_call 50; (refine (HN.out _ (HP.out.below (by go_grown))).mono ?_); rintro e w1 ⟨rfl, hb⟩; refine Hid.out ?_)
  refine Lib.hid ?_
  have p0 := cell_below (a := ⟨w.heap.size + 1, 0, none⟩) (v := .int .i64 qx) (by go_cell) hb
  have p1 := cell_below (a := ⟨w.heap.size + 1, 1, none⟩) (v := .int .i64 qy) (by go_cell) hb
  have AC := Lib.hid (Below.next (a := w) (by go_grown) hb)
  have hz : w.heap.size + 1 < w1.heap.size := World.block_lt_of_cell? _ _ p0
  clear hb HN HP
  have ab := (Below.refl w1.heap.size w1).alloc (Nat.le_refl _) (.cells #[.int .i64 x0, .int .i64 y0, .int .i64 x1, .int .i64 y1, .int .i64 bg, .int .i64 ln] 79)
  have q0 := cell_below p0 ab
  have q1 := cell_below p1 ab
  clear ab p0 p1
  go_wp2_with (go_at_call 90; (refine (HD.out _).mono ?_); rintro e w2 ⟨rfl, hb⟩; have AC2 := Lib.hid (Below.next (AC.out.alloc AC.out.size _) hb); clear hb)
  go_ret
  exact ⟨rfl, AC2.out⟩
set_option maxRecDepth 100000 in
set_option maxHeartbeats 2000000 in
theorem sideofchn_any (s : ByteArray) (z : Int) (v : Value) (ps : Pts) (qx qy : Int) (w : World) (hs : s.size ≤ maxLen) (hm : ps.length ≤ 1048576) (h : PtsC w v ps) :
    Calls Try.prog 18 #[.agg #[.string s, v, .int .i64 z], .agg #[.int .i64 qx, .int .i64 qy]] w fun e w' => e = .returned (.tuple #[.int .i64 (sdC s ps z (qx, qy)), .int .i64 (sdE s ps z (qx, qy))]) ∧ Below w.heap.size w w' := by
  have HV := fun w' (h : PtsC w' v ps) => validchn_any s z v ps w' hs hm h.1
  have HO := fun w' => ok_any qx qy w'
  have HP := Lib.hid h
  obtain ⟨a, c, rfl⟩ := pts_len h.1
  cases hk : okC s ps z
  · rw [hk] at HV
    have HV := Lib.hid HV
    obtain ⟨e1, e2⟩ := sd_no (q := (qx, qy)) hk
    rw [e1, e2]
    clear h hk HO e1 e2
    go_enter Try.func18, Try.ntmps18
    go_wp2_with (go_at_call 48; (refine (HV.out _ (HP.out.below (by go_grown))).mono ?_); rintro e w1 ⟨rfl, hb⟩; have AC := Lib.hid (Below.next (a := w) (by go_grown) hb); clear hb)
    refine bodyPost_ret (v := .tuple #[.int .i64 0, .int .i64 1]) (by simp [results, Try.results18, go_sem, *]) rfl ⟨rfl, AC.out⟩
  · rw [hk] at HV
    have HV := Lib.hid HV
    obtain ⟨_, h2, h12, hok, hz1, hz2, hst⟩ := okC_parts hk
    cases hq : inB 0 200000 [qx, qy]
    · rw [hq] at HO
      have HO := Lib.hid HO
      obtain ⟨e1, e2⟩ := sd_out (s := s) (ps := ps) (z := z) (q := (qx, qy)) hq
      rw [e1, e2]
      clear h hk hq e1 e2
      go_enter Try.func18, Try.ntmps18
      go_wp2_with (first
        | (go_at_call 48; (refine (HV.out _ (HP.out.below (by go_grown))).mono ?_); rintro e w1 ⟨rfl, hb⟩; have p0 := cell_below (a := ⟨w.heap.size + 1, 0, none⟩) (v := .int .i64 qx) (by go_cell) hb; have p1 := cell_below (a := ⟨w.heap.size + 1, 1, none⟩) (v := .int .i64 qy) (by go_cell) hb; have AC := Lib.hid (Below.next (a := w) (by go_grown) hb); clear hb)
        | (go_at_call 49; (refine (HO.out _).mono ?_); rintro e w2 ⟨rfl, hb⟩; have AC2 := Lib.hid (Below.next AC.out hb); clear hb))
      refine bodyPost_ret (v := .tuple #[.int .i64 0, .int .i64 1]) (by simp [results, Try.results18, go_sem, *]) rfl ⟨rfl, AC2.out⟩
    · rw [hq] at HO
      have HO := Lib.hid HO
      have HD := Lib.hid (fun w' h => sideofn_any s z (.slice a ps.length c) ps qx qy w' h2 h12 h)
      obtain ⟨e1, e2⟩ := sd_in hk (show inB 0 200000 [(qx, qy).1, (qx, qy).2] = true from hq)
      rw [e1, e2]
      clear h hk hq e1 e2 hok hst
      generalize sdN ps (qx, qy) = R at *
      go_enter Try.func18, Try.ntmps18
      go_wp2_with (first
        | (go_at_call 48; (refine (HV.out _ (HP.out.below (by go_grown))).mono ?_); rintro e w1 ⟨rfl, hb⟩; have x0 := cell_below (a := ⟨w.heap.size, 0, none⟩) (v := .string s) (by go_cell) hb; have x1 := cell_below (a := ⟨w.heap.size, 1, none⟩) (v := .slice a ps.length c) (by go_cell) hb; have x2 := cell_below (a := ⟨w.heap.size, 2, none⟩) (v := .int .i64 z) (by go_cell) hb; have p0 := cell_below (a := ⟨w.heap.size + 1, 0, none⟩) (v := .int .i64 qx) (by go_cell) hb; have p1 := cell_below (a := ⟨w.heap.size + 1, 1, none⟩) (v := .int .i64 qy) (by go_cell) hb; have AC := Lib.hid (Below.next (a := w) (by go_grown) hb); clear hb)
        | (go_at_call 49; (refine (HO.out _).mono ?_); rintro e w2 ⟨rfl, hb⟩; have y0 := cell_below x0 hb; have y1 := cell_below x1 hb; have y2 := cell_below x2 hb; have q0 := cell_below p0 hb; have q1 := cell_below p1 hb; have AC2 := Lib.hid (Below.next AC.out hb); clear hb)
        | (go_at_call 53; (refine (HD.out _ (HP.out.below AC2.out)).mono ?_); rintro e w3 ⟨rfl, hb⟩; have AC3 := Lib.hid (Below.next AC2.out hb); clear hb))
      refine bodyPost_ret (v := .tuple #[.int .i64 R, .int .i64 0]) (by simp [results, Try.results18, go_sem, *]) rfl ⟨rfl, AC3.out⟩
end Go.Proofs.Ythccbipjmheoaaa
