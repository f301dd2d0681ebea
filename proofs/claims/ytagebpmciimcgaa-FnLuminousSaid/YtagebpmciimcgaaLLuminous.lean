/- The law of luminous ranges. -/
import Derived.Test.YtagebpmciimcgaaRngS
import Derived.Test.YtagebpmciimcgaaFndR
namespace Go.Proofs.Ytagebpmciimcgaa
open Go.ChangeShapes Go.WideShapes Go.ChangeAt Go.RowKit Pm

theorem most_le {p q : Int → Bool} {M a c : Int} (h : Most p M a) (k : Most q M c) (s : ∀ t, 1 ≤ t → t ≤ M → p t = true → q t = true) : a ≤ c := by
  obtain ⟨a0, a1, a2, a3⟩ := h
  obtain ⟨c0, c1, c2, c3⟩ := k
  by_cases e : a ≤ c
  · exact e
  · have x := s a (by omega) a1 (a2 a (by omega) (by omega))
    rw [c3 a (by omega) a1] at x
    cases x
theorem most_ge {q : Int → Bool} {M a c : Int} (k : Most q M c) (a1 : a ≤ M) (s : q a = true) : a ≤ c := by
  obtain ⟨c0, c1, c2, c3⟩ := k
  by_cases e : a ≤ c
  · exact e
  · rw [c3 a (by omega) a1] at s
    cases s
theorem least_le {p : Int → Bool} {L M v a c : Int} (h : LeastIs p L M a c) (v0 : L ≤ v) (v1 : v ≤ M) (s : p v = true) : L ≤ a ∧ a ≤ v ∧ c = 0 ∧ p a = true := by
  obtain ⟨r, ⟨r0, r1, r2, r3⟩, hr⟩ := h
  have rv : r ≤ v := by
    by_cases e : r ≤ v
    · exact e
    · rw [r2 v v0 (by omega)] at s
      cases s
  rcases hr with ⟨k, rfl, rfl⟩ | ⟨k, rfl, rfl⟩
  · exact ⟨r0, rv, rfl, r3 a (by omega) k⟩
  · omega
theorem lumIs_ok {I V a c : Int} (h : LumIs I V a c) (i : 1 ≤ I ∧ I ≤ 100000000) (v : 1 ≤ V ∧ V ≤ 100000) : Most (seenB I V) 100000 a ∧ c = 0 := by
  rcases h with ⟨k, _, _⟩ | ⟨_, k, k2⟩
  · rw [inB_in i, inB_in v] at k; cases k
  · exact ⟨k, k2⟩
theorem lum_ex (I V : Int) (i : 1 ≤ I ∧ I ≤ 100000000) (v : 1 ≤ V ∧ V ≤ 100000) : ∃ a, Most (seenB I V) 100000 a ∧ LumIs I V a 0 := by
  obtain ⟨a, c, h⟩ := lumIs_ex I V
  obtain ⟨h1, rfl⟩ := lumIs_ok h i v
  exact ⟨a, h1, h⟩

/-- What is known of an intensity's ranges in a visibility, and of what lies above both. -/
theorem lum_facts (L V u v : Int) (l0 : 1 ≤ L) (l1 : L ≤ 20000000) (v0 : 1 ≤ V) (v1 : V ≤ 60000) (u0 : 0 ≤ u) (u1 : u ≤ 255) (x0 : 0 ≤ v) (x1 : v ≤ 255) :
    ∃ a c e, LumIs L V a 0 ∧ LumIs (L + 1 + u) V c 0 ∧ LumIs L (V + 1 + v) e 0 ∧ 0 ≤ a ∧ a ≤ 100000 ∧ a ≤ c ∧ a ≤ e ∧
      (a < 1 ∨ (1 ≤ a ∧ ∃ k s x y, IntIs a V k 0 ∧ VisIs L a s 0 ∧ 1 ≤ k ∧ k ≤ L ∧ 1 ≤ s ∧ s ≤ V ∧ LumIs k V x 0 ∧ LumIs L s y 0 ∧ a ≤ x ∧ a ≤ y)) := by
  obtain ⟨a, ha, ha'⟩ := lum_ex L V ⟨l0, by omega⟩ ⟨v0, by omega⟩
  obtain ⟨c, hc, hc'⟩ := lum_ex (L + 1 + u) V ⟨by omega, by omega⟩ ⟨v0, by omega⟩
  obtain ⟨e, he, he'⟩ := lum_ex L (V + 1 + v) ⟨l0, by omega⟩ ⟨by omega, by omega⟩
  refine ⟨a, c, e, ha', hc', he', ha.1, ha.2.1, most_le ha hc (fun t t0 t1 s => seen_I l0 (by omega) (by omega) s), most_le ha he (fun t t0 t1 s => seen_V t0 v0 (by omega) s), ?_⟩
  by_cases a1 : a < 1
  · exact .inl a1
  · refine .inr ⟨by omega, ?_⟩
    have sa : seenB L V a = true := ha.2.2.1 a (by omega) (by omega)
    obtain ⟨k, kc, hk⟩ := intIs_ex a V
    obtain ⟨s, sc, hs⟩ := visIs_ex L a
    have hk' : LeastIs (fun I => seenB I V a) 1 100000000 k kc := by
      rcases hk with ⟨z, _, _⟩ | ⟨_, z⟩
      · rw [inB_in ⟨by omega, ha.2.1⟩, inB_in ⟨v0, by omega⟩] at z; cases z
      · exact z
    have hs' : LeastIs (fun V => seenB L V a) 1 100000 s sc := by
      rcases hs with ⟨z, _, _⟩ | ⟨_, z⟩
      · rw [inB_in ⟨l0, by omega⟩, inB_in ⟨by omega, ha.2.1⟩] at z; cases z
      · exact z
    obtain ⟨k0, k1, rfl, k2⟩ := least_le hk' l0 (by omega) sa
    obtain ⟨s0, s1, rfl, s2⟩ := least_le hs' v0 (by omega) sa
    obtain ⟨x, hx, hx'⟩ := lum_ex k V ⟨k0, by omega⟩ ⟨v0, by omega⟩
    obtain ⟨y, hy, hy'⟩ := lum_ex L s ⟨l0, by omega⟩ ⟨s0, by omega⟩
    exact ⟨k, s, x, y, hk, hs, k0, k1, s0, s1, hx', hy', most_ge hx ha.2.1 k2, most_ge hy ha.2.1 s2⟩

theorem tenlog_ok (n : Int) (w : World) (h : 1 ≤ n ∧ n ≤ 1000000000000) : Calls Try.prog 19 #[.int .i64 n] w (RetP (logV n) 0 w) := tenlog_any n _ 0 w (.inr ⟨inB_in h, rfl, rfl⟩)
theorem prod_le (p q : Int) (p0 : 0 ≤ p) (p1 : p ≤ 65535) (q0 : 0 ≤ q) (q1 : q ≤ 199) : 0 ≤ p * (1 + q) ∧ p * (1 + q) ≤ 13107000 := by
  have a : p * (1 + q) ≤ 65535 * 200 := Int.mul_le_mul p1 (by omega) (by omega) (by omega)
  have b : 0 ≤ p * (1 + q) := Int.mul_nonneg p0 (by omega)
  omega

set_option maxRecDepth 100000 in
set_option maxHeartbeats 8000000 in
theorem luminous_law (a0 : Option Addr) (len0 cap0 : Nat) (zs : List Int) (w : World) (hA : ArgIn .u8 w (.slice a0 len0 cap0) zs) (hl : zs.length = len0) (hz : BytesAre zs) :
    Calls Try.prog 4 #[.slice a0 len0 cap0] w fun e w' => e = .returned (.bool true) ∧ Below w.heap.size w w' := by
  by_cases hlen : len0 ≤ 1048576
  · have hl1 : zs.length ≤ 1048576 := by omega
    have HP := Lib.hid (show ∀ w', Below w.heap.size w w' → Calls Try.prog 14 #[.slice a0 len0 cap0, .int .i64 0, .int .i64 65536] w' fun e w'' => e = .returned (.int .i64 (wideV zs 0 65536)) ∧ w' = w'' from fun w' hb => r8wide_any w' _ zs 0 65536 (hA.below hb) hz hl1 (by omega) (by omega) (by omega))
    obtain ⟨p0, p1⟩ := wideV_bd (zs := zs) (k := 0) (n := 65536) (by omega)
    generalize wideV zs 0 65536 = p at *
    have HQ := Lib.hid (show ∀ w', Below w.heap.size w w' → Calls Try.prog 17 #[.slice a0 len0 cap0, .int .i64 2, .int .i64 200] w' fun e w'' => e = .returned (.int .i64 (atV zs 2 200)) ∧ w' = w'' from fun w' hb => r8at_any w' _ zs 2 200 (hA.below hb) hz hl1 (by omega) (by omega))
    obtain ⟨q0, q1⟩ := atV_bd (zs := zs) (k := 2) (n := 200) (by omega)
    generalize atV zs 2 200 = q at *
    have HR := Lib.hid (show ∀ w', Below w.heap.size w w' → Calls Try.prog 14 #[.slice a0 len0 cap0, .int .i64 3, .int .i64 60000] w' fun e w'' => e = .returned (.int .i64 (wideV zs 3 60000)) ∧ w' = w'' from fun w' hb => r8wide_any w' _ zs 3 60000 (hA.below hb) hz hl1 (by omega) (by omega) (by omega))
    obtain ⟨r0, r1⟩ := wideV_bd (zs := zs) (k := 3) (n := 60000) (by omega)
    generalize wideV zs 3 60000 = r at *
    have HU := Lib.hid (show ∀ w', Below w.heap.size w w' → Calls Try.prog 17 #[.slice a0 len0 cap0, .int .i64 5, .int .i64 256] w' fun e w'' => e = .returned (.int .i64 (atV zs 5 256)) ∧ w' = w'' from fun w' hb => r8at_any w' _ zs 5 256 (hA.below hb) hz hl1 (by omega) (by omega))
    obtain ⟨u0, u1⟩ := atV_bd (zs := zs) (k := 5) (n := 256) (by omega)
    generalize atV zs 5 256 = u at *
    have HV := Lib.hid (show ∀ w', Below w.heap.size w w' → Calls Try.prog 17 #[.slice a0 len0 cap0, .int .i64 6, .int .i64 256] w' fun e w'' => e = .returned (.int .i64 (atV zs 6 256)) ∧ w' = w'' from fun w' hb => r8at_any w' _ zs 6 256 (hA.below hb) hz hl1 (by omega) (by omega))
    obtain ⟨v0, v1⟩ := atV_bd (zs := zs) (k := 6) (n := 256) (by omega)
    generalize atV zs 6 256 = v at *
    have HH := Lib.hid (show ∀ w', Below w.heap.size w w' → Calls Try.prog 14 #[.slice a0 len0 cap0, .int .i64 7, .int .i64 3000] w' fun e w'' => e = .returned (.int .i64 (wideV zs 7 3000)) ∧ w' = w'' from fun w' hb => r8wide_any w' _ zs 7 3000 (hA.below hb) hz hl1 (by omega) (by omega) (by omega))
    obtain ⟨h0, h1⟩ := wideV_bd (zs := zs) (k := 7) (n := 3000) (by omega)
    generalize wideV zs 7 3000 = h at *
    obtain ⟨s0, s1⟩ := prod_le p q p0 (by omega) q0 (by omega)
    have ew := IntWalk.i64_in (p * (1 + q)) ⟨by omega, by omega⟩
    have HBB := Lib.hid (Below.refl w.heap.size w)
    have hlz : (len0 : Int) ≤ 1048576 := by omega
    clear hA hz hl hlen
    go_enter Try.func4, Try.ntmps4
    go_wp2_with (go_at_call 14; (with_reducible refine (HP.out _ HBB.out).mono ?_); rintro e w1 ⟨rfl, rfl⟩; refine Hid.out ?_)
    refine Lib.hid ?_
    go_wp2_with (go_at_call 17; (with_reducible refine (HQ.out _ HBB.out).mono ?_); rintro e w1 ⟨rfl, rfl⟩; refine Hid.out ?_)
    refine Lib.hid ?_
    go_wp2_with (go_at_call 14; (with_reducible refine (HR.out _ HBB.out).mono ?_); rintro e w1 ⟨rfl, rfl⟩; refine Hid.out ?_)
    refine Lib.hid ?_
    generalize hL : 1 + p * (1 + q) = L
    have l0 : 1 ≤ L := by omega
    have l1 : L ≤ 20000000 := by omega
    generalize p * (1 + q) = s at *
    clear hL ew s0 s1
    obtain ⟨a, c, e, h1, h2, h3, a0', a1, ac, ae, hF⟩ := lum_facts L (1 + r) u v l0 l1 (by omega) (by omega) u0 (by omega) v0 (by omega)
    have HL1 := Lib.hid (fun w' (_ : Below w.heap.size w w') => luminous_any L (1 + r) a 0 w' h1)
    have HL2 := Lib.hid (fun w' (_ : Below w.heap.size w w') => luminous_any (L + 1 + u) (1 + r) c 0 w' h2)
    have HL3 := Lib.hid (fun w' (_ : Below w.heap.size w w') => luminous_any L (1 + r + 1 + v) e 0 w' h3)
    have hn := logV_ten l0 (show L ≤ 99999999 by omega)
    have hb := logV_bd l0 (show L ≤ 1000000000000 by omega)
    have HT1 := fun w' (_ : Below w.heap.size w w') => tenlog_ok L w' ⟨l0, by omega⟩
    have HT2 := fun w' (_ : Below w.heap.size w w') => tenlog_ok (10 * L) w' ⟨by omega, by omega⟩
    rw [hn] at HT2
    clear hn
    generalize logV L = n at *
    obtain ⟨n0, n1⟩ := hb
    have HT1 := Lib.hid HT1
    have HT2 := Lib.hid HT2
    have h1 := Lib.hid h1
    clear h2 h3
    go_wp2_with (go_at_call 18; (with_reducible refine (HL1.out _ HBB.out).mono ?_); rintro e w1 ⟨rfl, hb⟩; refine Hid.out ?_)
    refine Lib.hid ?_
    replace HBB := Lib.hid (Below.next HBB.out hb)
    clear hb
    go_wp2_with (go_at_call 17; (with_reducible refine (HU.out _ HBB.out).mono ?_); rintro e w1 ⟨rfl, rfl⟩; refine Hid.out ?_)
    refine Lib.hid ?_
    go_wp2_with (go_at_call 18; (with_reducible refine (HL2.out _ HBB.out).mono ?_); rintro e w1 ⟨rfl, hb⟩; refine Hid.out ?_)
    refine Lib.hid ?_
    replace HBB := Lib.hid (Below.next HBB.out hb)
    clear hb
    go_wp2_with (go_at_call 17; (with_reducible refine (HV.out _ HBB.out).mono ?_); rintro e w1 ⟨rfl, rfl⟩; refine Hid.out ?_)
    refine Lib.hid ?_
    go_wp2_with (go_at_call 18; (with_reducible refine (HL3.out _ HBB.out).mono ?_); rintro e w1 ⟨rfl, hb⟩; refine Hid.out ?_)
    refine Lib.hid ?_
    replace HBB := Lib.hid (Below.next HBB.out hb)
    clear hb
    go_wp2_with (go_at_call 19; (with_reducible refine (HT1.out _ HBB.out).mono ?_); rintro e w1 ⟨rfl, hb⟩; refine Hid.out ?_)
    refine Lib.hid ?_
    replace HBB := Lib.hid (Below.next HBB.out hb)
    clear hb
    go_wp2_with (go_at_call 19; (with_reducible refine (HT2.out _ HBB.out).mono ?_); rintro e w1 ⟨rfl, hb⟩; refine Hid.out ?_)
    refine Lib.hid ?_
    replace HBB := Lib.hid (Below.next HBB.out hb)
    clear hb
    rcases hF with a2 | ⟨a2, k, m, x, y, i1, i2, k0, k1, m0, m1, i3, i4, ax, ay⟩
    · go_wp2
      go_ret
      exact ⟨rfl, HBB.out⟩
    · have HI := Lib.hid (fun w' (_ : Below w.heap.size w w') => intensity_any a (1 + r) k 0 w' i1)
      have HS := Lib.hid (fun w' (_ : Below w.heap.size w w') => visibility_any L a m 0 w' i2)
      have HL4 := Lib.hid (fun w' (_ : Below w.heap.size w w') => luminous_any k (1 + r) x 0 w' i3)
      have HL5 := Lib.hid (fun w' (_ : Below w.heap.size w w') => luminous_any L m y 0 w' i4)
      have hg : GeoIs h 20 (horV h + horV 20) 0 := .inr ⟨by rw [inB_in ⟨h0, by omega⟩]; decide, rfl, rfl⟩
      have HG := fun w' (_ : Below w.heap.size w w') => sgeo_any h 20 _ 0 w' hg
      have HX := fun w' (_ : Below w.heap.size w w') => rangeof_any L h 20 (1 + r) _ 0 w' ⟨a, _, 0, 0, h1.out, hg, .inl ⟨rfl, rfl, rfl, rfl⟩⟩
      generalize horV h + horV 20 = g at *
      obtain ⟨b, eb⟩ : ∃ b, b = (if g < a then g else a) := ⟨_, rfl⟩
      rw [← eb] at HX
      have HG := Lib.hid HG
      have HX := Lib.hid HX
      have EB := Lib.hid (show min a g = b by rw [eb, Int.min_def]; split <;> split <;> omega)
      clear i1 i2 i3 i4 hg eb h1
      go_wp2_with (go_at_call 20; (with_reducible refine (HI.out _ HBB.out).mono ?_); rintro e w1 ⟨rfl, hb⟩; refine Hid.out ?_)
      refine Lib.hid ?_
      replace HBB := Lib.hid (Below.next HBB.out hb)
      clear hb
      go_wp2_with (go_at_call 21; (with_reducible refine (HS.out _ HBB.out).mono ?_); rintro e w1 ⟨rfl, hb⟩; refine Hid.out ?_)
      refine Lib.hid ?_
      replace HBB := Lib.hid (Below.next HBB.out hb)
      clear hb
      go_wp2_with (go_at_call 18; (with_reducible refine (HL4.out _ HBB.out).mono ?_); rintro e w1 ⟨rfl, hb⟩; refine Hid.out ?_)
      refine Lib.hid ?_
      replace HBB := Lib.hid (Below.next HBB.out hb)
      clear hb
      go_wp2_with (go_at_call 18; (with_reducible refine (HL5.out _ HBB.out).mono ?_); rintro e w1 ⟨rfl, hb⟩; refine Hid.out ?_)
      refine Lib.hid ?_
      replace HBB := Lib.hid (Below.next HBB.out hb)
      clear hb
      go_wp2_with (go_at_call 14; (with_reducible refine (HH.out _ HBB.out).mono ?_); rintro e w1 ⟨rfl, rfl⟩; refine Hid.out ?_)
      refine Lib.hid ?_
      go_wp2_with (go_at_call 22; (with_reducible refine (HG.out _ HBB.out).mono ?_); rintro e w1 ⟨rfl, hb⟩; refine Hid.out ?_)
      refine Lib.hid ?_
      replace HBB := Lib.hid (Below.next HBB.out hb)
      clear hb
      go_wp2_with (go_at_call 23; (with_reducible refine (HX.out _ HBB.out).mono ?_); rintro e w1 ⟨rfl, hb⟩; refine Hid.out ?_)
      refine Lib.hid ?_
      replace HBB := Lib.hid (Below.next HBB.out hb)
      clear hb
      have eb := EB.out
      go_wp2
      go_ret
      exact ⟨rfl, HBB.out⟩
  · have hlz : 1048576 < (len0 : Int) := by omega
    clear hA hz hl hlen
    go_enter Try.func4, Try.ntmps4
    go_wp2
    go_ret
    exact ⟨rfl, Below.refl _ _⟩
end Go.Proofs.Ytagebpmciimcgaa
