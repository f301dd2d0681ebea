/- How far a path is from a danger: pure, the program's, the model's. ClearanceOf: the program's word whole, the model's. -/
import Derived.Test.YthccbipjmheoaaaDgrX
import Derived.Test.YthccbipjmheoaaaNearM
import Derived.Test.YthccbipjmheoaaaNearA
import Derived.Deep.RegionHeld3
import Derived.Deep.RegionWith
namespace Go.Proofs.Ythccbipjmheoaaa
open Go.ChangeShapes Go.WideShapes Go.ChangeAt Go.RowKit Pm

theorem dstV_comm (p q : Int × Int) : dstV p q = dstV q p := by
  have h := dstV_is q p
  refine (dstV_is p q).one (s := dstV q p) ?_
  unfold DistIs at h ⊢
  rw [sqd_comm p.1 p.2 q.1 q.2, Bool.and_comm]
  exact h
theorem gpV_nn (a b p : Int × Int) : 0 ≤ gpV a b p := by
  have h := gpV_is a b p
  unfold GapR at h
  split at h
  · exact h.nn
  · omega
/-- The least distance of a point from the first of a path's points, and its segments 0 .. k - 1. -/
noncomputable def clUp (ps : Pts) (q : Int × Int) : Nat → Int
  | 0 => dstV q (ps.getD 0 (0, 0))
  | k + 1 => if gpV (ps.getD k (0, 0)) (ps.getD (k + 1) (0, 0)) q < clUp ps q k then gpV (ps.getD k (0, 0)) (ps.getD (k + 1) (0, 0)) q else clUp ps q k
theorem clUp_bd (ps : Pts) (q : Int × Int) : ∀ k, 0 ≤ clUp ps q k ∧ clUp ps q k ≤ 3037000499
  | 0 => dstV_bd _ _
  | k + 1 => by
    have h := clUp_bd ps q k
    have h2 := gpV_nn (ps.getD k (0, 0)) (ps.getD (k + 1) (0, 0)) q
    simp only [clUp]
    split <;> omega
/-- How far a path is from a danger. -/
noncomputable def clrV (d : Dg) (ps : Pts) : Int := clUp ps (d.2.1, d.2.2.1) (ps.length - 1) - d.2.2.2
/-- Is it a path? -/
def pathB (ps : Pts) : Bool := inB 1 64 [(ps.length : Int)] && ps.all okB
theorem pathB_parts {ps : Pts} (h : pathB ps = true) : 1 ≤ ps.length ∧ ps.length ≤ 64 ∧ ∀ i, i < ps.length → okB (ps.getD i (0, 0)) = true := by
  simp only [pathB, Bool.and_eq_true] at h
  have a : 1 ≤ (ps.length : Int) ∧ (ps.length : Int) ≤ 64 := by simpa [inB] using h.1
  refine ⟨by omega, by omega, fun i hi => ?_⟩
  have := List.all_eq_true.1 h.2 _ (List.getElem_mem hi)
  simpa [hi] using this
theorem least_two (a b : Int) : Pm.leastOf a [b] = if b < a then b else a := rfl
theorem keep6a {w0 w : World} {a0 a1 a2 a3 a4 a5 : Addr} {v0 v1 v2 v3 v4 v5 : Value} {o : Obj} (h : w.cell? a0 = some v0 ∧ w.cell? a1 = some v1 ∧ w.cell? a2 = some v2 ∧ w.cell? a3 = some v3 ∧ w.cell? a4 = some v4 ∧ w.cell? a5 = some v5 ∧ Below w0.heap.size w0 w) :
    (w.alloc o).cell? a0 = some v0 ∧ (w.alloc o).cell? a1 = some v1 ∧ (w.alloc o).cell? a2 = some v2 ∧ (w.alloc o).cell? a3 = some v3 ∧ (w.alloc o).cell? a4 = some v4 ∧ (w.alloc o).cell? a5 = some v5 ∧ Below w0.heap.size w0 (w.alloc o) :=
  keep6 ((Below.refl _ _).alloc (Nat.le_refl _) o) h
theorem clxG12d {w : World} (R : World → Prop) (hR : ∀ w1 w2, R w1 → Below w1.heap.size w1 w2 → R w2) (h : R w) : ∃ S : World → Prop, (∀ w1 w2, S w1 → Below w1.heap.size w1 w2 → S w2) ∧ S w.drew ∧ ∀ p : Clx S, R p.v :=
  ⟨R, hR, hR _ _ h (Below.refl _ _).drew, fun p => p.h⟩
theorem distto_any (s : ByteArray) (x y z : Int) (p : Int × Int) (w : World) :
    Calls Try.prog 99 #[.agg #[.string s, .int .i64 x, .int .i64 y, .int .i64 z], .agg #[.int .i64 p.1, .int .i64 p.2]] w fun e w' => e = .returned (.int .i64 (dstV (x, y) p)) ∧ Below w.heap.size w w' := by
  have HG := Lib.hid (fun w' => distance_v (x, y) p w')
  generalize dstV (x, y) p = G at *
  obtain ⟨px, py⟩ := p
  simp only at HG ⊢
  go_enter Try.func99, Try.ntmps99
  go_wp2_with (go_at_call 113; (with_reducible refine (HG.out _).mono ?_); rintro e w1 ⟨rfl, hb⟩; have AC := Lib.hid (Below.next (a := w) (by go_grown) hb); clear hb)
  go_ret
  exact ⟨rfl, AC.out⟩
set_option maxRecDepth 100000 in
set_option maxHeartbeats 2000000 in
theorem clear_any (d : Dg) (v : Value) (ps : Pts) (w : World) (hp : 1 ≤ ps.length) (h64 : ps.length ≤ 64) (hz : 1 ≤ d.2.2.2 ∧ d.2.2.2 ≤ 20000) (h : PtsC w v ps) :
    Calls Try.prog 73 #[.agg #[.string d.1, .int .i64 d.2.1, .int .i64 d.2.2.1, .int .i64 d.2.2.2], v] w fun e w' => e = .returned (.int .i64 (clrV d ps)) ∧ Below w.heap.size w w' := by
  obtain ⟨bb, off, cap, rfl, hcap, hc⟩ := h.cells hp
  have HC := Lib.hid hc
  have hbb : bb < w.heap.size := seg_lt (hc 0 (by omega)).1
  obtain ⟨s, x, y, z⟩ := d
  simp only at hz ⊢
  have HR := Lib.hid (show clrV (s, x, y, z) ps = clUp ps (x, y) (ps.length - 1) - z from rfl)
  generalize clrV (s, x, y, z) ps = R at *
  have e0 := (hc 0 (by omega)).1
  have e1 := (hc 0 (by omega)).2
  rw [Nat.zero_mul, Nat.add_zero] at e0 e1
  have HD := Lib.hid (fun w' => (distto_any s x y z (ps.getD 0 (0, 0)) w').mono (R' := fun e w'' => e = .returned (.int .i64 (clUp ps (x, y) 0)) ∧ Below w'.heap.size w' w'') (fun _ _ h => h))
  have hcp := clUp_bd ps (x, y) 0
  obtain ⟨n, hn⟩ : ∃ n, n = ps.length := ⟨_, rfl⟩
  have HN := Lib.hid hn
  rw [← hn] at hp h64 hcap HR ⊢
  generalize hg : ps.getD 0 (0, 0) = g0 at e0 e1 HD
  obtain ⟨gx, gy⟩ := g0
  simp only at e0 e1 HD
  clear hn hc h hg
  obtain ⟨W, hW⟩ : ∃ W, W = w.alloc (.cells #[.string s, .int .i64 x, .int .i64 y, .int .i64 z] 44) := ⟨_, rfl⟩
  have hB0 : Below w.heap.size w W := hW ▸ (Below.refl _ _).alloc (Nat.le_refl _) _
  have D0 : DgAt W w.heap.size 0 (s, x, y, z) := hW ▸ DgAt.new (w := w) (T := 44) (s, x, y, z) w.heap.size rfl
  obtain ⟨S, hcl, hS0, kR⟩ := clxG12d (w := W) (fun w' => DgAt w' w.heap.size 0 (s, x, y, z) ∧ w'.cell? ⟨bb, off, none⟩ = some (.int .i64 gx) ∧ w'.cell? ⟨bb, off + 1, none⟩ = some (.int .i64 gy) ∧ Below w.heap.size w w') (fun _ _ ⟨x0, x1, x2, x3⟩ hb => ⟨x0.below hb, cell_below x1 hb, cell_below x2 hb, Below.next x3 hb⟩) ⟨D0, cell_below e0 hB0, cell_below e1 hB0, hB0⟩
  have m0 := fun p : Clx S => (kR p).1.1
  have m1 := fun p : Clx S => (kR p).1.2.1
  have m2 := fun p : Clx S => (kR p).1.2.2.1
  have m3 := fun p : Clx S => (kR p).1.2.2.2
  have m4 := fun p : Clx S => (kR p).2.1
  have m5 := fun p : Clx S => (kR p).2.2.1
  have KR := Lib.hid kR
  have hnS : Nonempty (Clx S) := ⟨⟨_, hS0⟩⟩
  subst hW
  clear kR e0 e1 hB0 D0
  go_enter Try.func73, Try.ntmps73
  go_wp2_with (fail)
  refine wp_region_clx S (by kernel_rfl) (by kernel_rfl) hS0 ?_
  repeat (go_big_quiet_step ((go_at_call 99; exact Clx.call hcl _ (HD.out _))))
  refine wpQuiet_nil ?_
  intro _ hw'
  obtain ⟨p, rfl⟩ := hw'
  obtain ⟨⟨d0, d1, d2, d3⟩, _, _, hB⟩ := KR.out p
  obtain ⟨wv, hwv⟩ : ∃ wv, wv = p.v := ⟨_, rfl⟩
  rw [← hwv] at d0 d1 d2 d3 hB ⊢
  have DB := Lib.hid (show DgAt wv w.heap.size 0 (s, x, y, z) from ⟨d0, d1, d2, d3⟩)
  have HB := Lib.hid hB
  have hsz : w.heap.size < wv.heap.size := World.block_lt_of_cell? _ _ d0
  clear m0 m1 m2 m3 m4 m5 KR HD hnS hcl hS0 hwv d0 d1 d2 d3 hB
  have h1n : (1 : Int) ≤ (n : Int) := by omega
  have hnc : (n : Int) ≤ (cap : Int) := by omega
  obtain ⟨d0, d1, d2, d3⟩ := DB.out
  by_cases h1 : n = 1
  · have HV := Lib.hid (show R = clUp ps (x, y) 0 - z by rw [HR.out, h1])
    have hw : IntKind.i64.wrap (clUp ps (x, y) 0 - z) = clUp ps (x, y) 0 - z := IntWalk.i64_in _ (by omega)
    subst h1
    go_wp2
    all_goals
      go_rounds 1
      go_ret
      exact ⟨ret_i HV.out.symm, HB.out⟩
  have hc1 : ¬ cap = 1 := by omega
  go_wp2_with (fail)
  clear d0 d1 d2 d3
  go_loopw [5, 16] (fun b i wr => ∃ k : Nat, k ≤ n - 1 ∧ i = .int .i64 k ∧ b = .int .i64 (clUp ps (x, y) k) ∧ Below wv.heap.size wv wr) (fun _ i _ => n - (intOf i).toNat)
  case atStart => exact ⟨0, Nat.zero_le _, rfl, rfl, Below.refl _ _⟩
  case round =>
    obtain ⟨k, hk, rfl, rfl, hbel⟩ := hrel
    have HBL := Lib.hid hbel
    have hac := HB.out.trans (hbel.mono HB.out.size)
    have hsw : w.heap.size < wr.heap.size := Nat.lt_of_lt_of_le hsz hbel.size
    obtain ⟨f0, f1, f2, f3⟩ := DB.out.below hbel
    have hz' := clUp_bd ps (x, y) k
    by_cases hlt : k < n - 1
    · have hkn : (k : Int) < (n : Int) - 1 := by omega
      have hkn2 : (k : Int) < (n : Int) := by omega
      have e0 := cell_below (HC.out k (by have := HN.out; omega)).1 hac
      have e1 := cell_below (HC.out k (by have := HN.out; omega)).2 hac
      have e2 := cell_below (HC.out (k + 1) (by have := HN.out; omega)).1 hac
      have e3 := cell_below (HC.out (k + 1) (by have := HN.out; omega)).2 hac
      rw [show off + (k + 1) * 2 = off + 2 + k * 2 by omega] at e2 e3
      have HG := Lib.hid (fun w' => (gap_any (ps.getD k (0, 0)).1 (ps.getD k (0, 0)).2 (ps.getD (k + 1) (0, 0)).1 (ps.getD (k + 1) (0, 0)).2 x y w').mono (R' := fun e w'' => e = .returned (.int .i64 (gpV (ps.getD k (0, 0)) (ps.getD (k + 1) (0, 0)) (x, y))) ∧ Below w'.heap.size w' w'') fun _ _ ⟨r, hr, he, hb⟩ => ⟨by rw [he, hr.one (gpV_is (ps.getD k (0, 0)) (ps.getD (k + 1) (0, 0)) (x, y))], hb⟩)
      have HCL := Lib.hid (show clUp ps (x, y) (k + 1) = Pm.leastOf (clUp ps (x, y) k) [gpV (ps.getD k (0, 0)) (ps.getD (k + 1) (0, 0)) (x, y)] by rw [least_two]; rfl)
      generalize gpV (ps.getD k (0, 0)) (ps.getD (k + 1) (0, 0)) (x, y) = G at *
      generalize (ps.getD k (0, 0)).1 = x0 at *
      generalize (ps.getD k (0, 0)).2 = y0 at *
      generalize (ps.getD (k + 1) (0, 0)).1 = x1 at *
      generalize (ps.getD (k + 1) (0, 0)).2 = y1 at *
      have HLE := Lib.hid (fun (w' : World) (g : Nat) (hg : w'.heap.size = g) => least_any (clUp ps (x, y) k) _ [G] _ (ints_one_at w' G g hg))
      rw [← HCL.out] at HLE
      obtain ⟨U, hU⟩ : ∃ U, U = clUp ps (x, y) (k + 1) := ⟨_, rfl⟩
      rw [← hU] at HLE
      have HU := Lib.hid hU
      clear hU
      generalize clUp ps (x, y) k = V at *
      simp only [Nat.zero_add] at f1 f2
      have AB := (Below.refl wr.heap.size wr).alloc (Nat.le_refl _) (.cells #[.int .i64 x1, .int .i64 y1] 33)
      obtain ⟨bz, hbz⟩ : ∃ bz, bz = wr.heap.size := ⟨_, rfl⟩
      obtain ⟨bw, hbw⟩ : ∃ bw, bw = w.heap.size := ⟨_, rfl⟩
      have H0 := Lib.hid (show (wr.alloc (.cells #[.int .i64 x1, .int .i64 y1] 33)).cell? ⟨bb, off + k * 2, none⟩ = some (.int .i64 x0) ∧ (wr.alloc (.cells #[.int .i64 x1, .int .i64 y1] 33)).cell? ⟨bb, off + k * 2 + 1, none⟩ = some (.int .i64 y0) ∧ (wr.alloc (.cells #[.int .i64 x1, .int .i64 y1] 33)).cell? ⟨wr.heap.size, 0, none⟩ = some (.int .i64 x1) ∧ (wr.alloc (.cells #[.int .i64 x1, .int .i64 y1] 33)).cell? ⟨wr.heap.size, 1, none⟩ = some (.int .i64 y1) ∧ (wr.alloc (.cells #[.int .i64 x1, .int .i64 y1] 33)).cell? ⟨w.heap.size, 1, none⟩ = some (.int .i64 x) ∧ (wr.alloc (.cells #[.int .i64 x1, .int .i64 y1] 33)).cell? ⟨w.heap.size, 2, none⟩ = some (.int .i64 y) ∧ Below wv.heap.size wv (wr.alloc (.cells #[.int .i64 x1, .int .i64 y1] 33)) from ⟨cell_below e0 AB, cell_below e1 AB, by simp, by simp, cell_below f1 AB, cell_below f2 AB, Below.next hbel AB⟩)
      clear AB hac hbel
      go_wp2_with (fail)
      go_region_held3 (fun w' => w'.cell? ⟨bb, off + k * 2, none⟩ = some (.int .i64 x0) ∧ w'.cell? ⟨bb, off + k * 2 + 1, none⟩ = some (.int .i64 y0) ∧ w'.cell? ⟨wr.heap.size, 0, none⟩ = some (.int .i64 x1) ∧ w'.cell? ⟨wr.heap.size, 1, none⟩ = some (.int .i64 y1) ∧ w'.cell? ⟨w.heap.size, 1, none⟩ = some (.int .i64 x) ∧ w'.cell? ⟨w.heap.size, 2, none⟩ = some (.int .i64 y) ∧ Below wv.heap.size wv w')
        (first | (with_reducible assumption) | (with_reducible exact keep6 (by assumption) (by assumption)) | (with_reducible exact keep6a (by assumption)) | (with_reducible exact drew6 H0.out))
        (first
          | (go_at_call 88; (with_reducible refine (HG.out _).mono ?_); rintro en w2 ⟨rfl, hb⟩)
          | (go_at_call 93; (with_reducible refine (HLE.out _ _ rfl).mono ?_); rintro en w3 ⟨rfl, rfl⟩))
      all_goals
        rename_i hH
        have HB2 := Lib.hid hH.2.2.2.2.2.2
        clear hH
        go_wp2_with (fail)
        go_roundw
        case rel => exact ⟨k + 1, by omega, by go_num, by rw [HU.out], HB2.out⟩
        case measure => simp [intOf]; omega
    · obtain rfl : k = n - 1 := by omega
      have HV := Lib.hid HR.out
      have hw : IntKind.i64.wrap (clUp ps (x, y) (n - 1) - z) = clUp ps (x, y) (n - 1) - z := IntWalk.i64_in _ (by omega)
      have hkn : ¬ ((n - 1 : Nat) : Int) < (n : Int) - 1 := by omega
      generalize clUp ps (x, y) (n - 1) = V at *
      have HAC := Lib.hid hac
      clear hbel hac
      go_wp2
      go_ret
      exact ⟨ret_i HV.out.symm, HAC.out⟩
theorem sclmin (ps : Pts) (q : Int × Int) (k : Nat) : (if clUp ps q k < gpV (ps.getD k (0, 0)) (ps.getD (k + 1) (0, 0)) q then clUp ps q k else gpV (ps.getD k (0, 0)) (ps.getD (k + 1) (0, 0)) q) = clUp ps q (k + 1) := by
  simp only [clUp]
  split <;> split <;> omega
theorem smin12_any (a b : Int) (w : World) :
    Calls Try.prog 101 #[.int .i64 a, .int .i64 b] w fun e w' => e = .returned (.int .i64 (if a < b then a else b)) ∧ Below w.heap.size w w' := by
  by_cases h : a < b
  · rw [if_pos h]
    go_enter Try.func101, Try.ntmps101
    go_wp2
    go_ret
    exact ⟨rfl, Below.refl _ _⟩
  · rw [if_neg h]
    go_enter Try.func101, Try.ntmps101
    go_wp2
    go_ret
    exact ⟨rfl, Below.refl _ _⟩
set_option maxRecDepth 100000 in
set_option maxHeartbeats 2000000 in
theorem sclear_any (b o : Nat) (d : Dg) (v : Value) (ps : Pts) (w : World) (hp : 1 ≤ ps.length) (h64 : ps.length ≤ 64) (hz : 1 ≤ d.2.2.2 ∧ d.2.2.2 ≤ 20000) (hok : ∀ i, i < ps.length → okB (ps.getD i (0, 0)) = true) (hq : okB (d.2.1, d.2.2.1) = true) (hd : DgAt w b o d) (h : PtsL w v ps) :
    Calls Try.prog 71 #[.pointer (some ⟨b, o, none⟩), v] w fun e w' => e = .returned (.int .i64 (clrV d ps)) ∧ Below w.heap.size w w' := by
  obtain ⟨a, c, rfl, h⟩ := h
  rcases h with ⟨_, rfl⟩ | ⟨bb, off, cap, hv, _, hc⟩
  · simp at hp
  simp only [Value.slice.injEq, true_and] at hv
  obtain ⟨rfl, rfl⟩ := hv
  have HC := Lib.hid hc
  have HOK := Lib.hid hok
  obtain ⟨s, x, y, z⟩ := d
  simp only at hz hq ⊢
  have HR := Lib.hid (show clrV (s, x, y, z) ps = clUp ps (x, y) (ps.length - 1) - z from rfl)
  generalize clrV (s, x, y, z) ps = R at *
  have e0 := (hc 0 (by omega)).1
  have e1 := (hc 0 (by omega)).2
  rw [Nat.zero_mul, Nat.add_zero] at e0 e1
  have HD := Lib.hid (fun w' => (sapart_v (ps.getD 0 (0, 0)) (x, y) (hok 0 (by omega)) hq w').mono (R' := fun e w'' => e = .returned (.int .i64 (clUp ps (x, y) 0)) ∧ Below w'.heap.size w' w'') (fun _ _ h => by rw [dstV_comm] at h; exact h))
  obtain ⟨n, hn⟩ : ∃ n, n = ps.length := ⟨_, rfl⟩
  have HN := Lib.hid hn
  rw [← hn] at hp h64 HR ⊢
  generalize hg : ps.getD 0 (0, 0) = g0 at e0 e1 HD
  obtain ⟨gx, gy⟩ := g0
  simp only at e0 e1 HD
  clear hn hc hg hok
  have HQ := Lib.hid hq
  obtain ⟨S, hcl, hS0, kR⟩ := clxG12d (w := w) (fun w' => DgAt w' b o (s, x, y, z) ∧ w'.cell? ⟨bb, off, none⟩ = some (.int .i64 gx) ∧ w'.cell? ⟨bb, off + 1, none⟩ = some (.int .i64 gy) ∧ Below w.heap.size w w') (fun _ _ ⟨x0, x1, x2, x3⟩ hb => ⟨x0.below hb, cell_below x1 hb, cell_below x2 hb, Below.next x3 hb⟩) ⟨hd, e0, e1, Below.refl _ _⟩
  have m1 := fun p : Clx S => (kR p).1.2.1
  have m2 := fun p : Clx S => (kR p).1.2.2.1
  have m4 := fun p : Clx S => (kR p).2.1
  have m5 := fun p : Clx S => (kR p).2.2.1
  have KR := Lib.hid kR
  have hnS : Nonempty (Clx S) := ⟨⟨_, hS0⟩⟩
  clear kR e0 e1 hd hq
  go_enter Try.func71, Try.ntmps71
  go_wp2_with (fail)
  refine wp_region_clx S (by kernel_rfl) (by kernel_rfl) hS0 ?_
  repeat (go_big_quiet_step ((go_at_call 66; exact Clx.call hcl _ (HD.out _))))
  refine wpQuiet_nil ?_
  intro _ hw'
  obtain ⟨p, rfl⟩ := hw'
  obtain ⟨⟨d0, d1, d2, d3⟩, _, _, hB⟩ := KR.out p
  obtain ⟨wv, hwv⟩ : ∃ wv, wv = p.v := ⟨_, rfl⟩
  rw [← hwv] at d0 d1 d2 d3 hB ⊢
  have DB := Lib.hid (show DgAt wv b o (s, x, y, z) from ⟨d0, d1, d2, d3⟩)
  have HB := Lib.hid hB
  clear m1 m2 m4 m5 KR HD hnS hcl hS0 hwv d0 d1 d2 d3 hB
  go_wp2_with (fail)
  go_loopw [5, 6] (fun b i wr => ∃ k : Nat, k + 1 ≤ n ∧ i = .int .i64 ((k + 1 : Nat) : Int) ∧ b = .int .i64 (clUp ps (x, y) k) ∧ Below wv.heap.size wv wr) (fun _ i _ => n - (intOf i).toNat)
  case atStart => exact ⟨0, hp, rfl, rfl, Below.refl _ _⟩
  case round =>
    obtain ⟨k, hk, rfl, rfl, hbel⟩ := hrel
    have HBL := Lib.hid hbel
    have hac := HB.out.trans (hbel.mono HB.out.size)
    obtain ⟨f0, f1, f2, f3⟩ := DB.out.below hbel
    have hz' := clUp_bd ps (x, y) k
    by_cases hlt : k + 1 < n
    · have hkn : ((k + 1 : Nat) : Int) < (n : Int) := by omega
      have hkm : (k : Int) < (n : Int) := by omega
      have hidx : ((k + 1 : Nat) : Int) - 1 = (k : Int) := by omega
      have e0 := cell_below (HC.out k (by have := HN.out; omega)).1 hac
      have e1 := cell_below (HC.out k (by have := HN.out; omega)).2 hac
      have e2 := cell_below (HC.out (k + 1) (by have := HN.out; omega)).1 hac
      have e3 := cell_below (HC.out (k + 1) (by have := HN.out; omega)).2 hac
      have HG := Lib.hid (fun w' => sgap_v (ps.getD k (0, 0)) (ps.getD (k + 1) (0, 0)) (x, y) (HOK.out k (by have := HN.out; omega)) (HOK.out (k + 1) (by have := HN.out; omega)) HQ.out w')
      have HM := Lib.hid (fun w' => smin12_any (clUp ps (x, y) k) (gpV (ps.getD k (0, 0)) (ps.getD (k + 1) (0, 0)) (x, y)) w')
      rw [sclmin] at HM
      obtain ⟨U, hU⟩ : ∃ U, U = clUp ps (x, y) (k + 1) := ⟨_, rfl⟩
      rw [← hU] at HM
      have HU := Lib.hid hU
      clear hU
      generalize gpV (ps.getD k (0, 0)) (ps.getD (k + 1) (0, 0)) (x, y) = G at *
      generalize (ps.getD k (0, 0)).1 = x0 at *
      generalize (ps.getD k (0, 0)).2 = y0 at *
      generalize (ps.getD (k + 1) (0, 0)).1 = x1 at *
      generalize (ps.getD (k + 1) (0, 0)).2 = y1 at *
      generalize clUp ps (x, y) k = V at *
      simp only at HG
      go_wp2_with (fail)
      obtain ⟨S, hcl, hS0, k0, k1, k2, k3, k4, k5, kB⟩ := clx6n e0 e1 e2 e3 f1 f2 hbel
      have hnS : Nonempty (Clx S) := ⟨⟨_, hS0⟩⟩
      clear e0 e1 e2 e3 f0 f1 f2 f3 hbel hac
      refine wp_region_clx S (by kernel_rfl) (by kernel_rfl) hS0 ?_
      repeat (go_big_quiet_step (first
        | (go_at_call 79; exact Clx.call hcl _ (HG.out _))
        | (go_at_call 101; exact Clx.call hcl _ (HM.out _))))
      refine wpQuiet_nil ?_
      intro _ hw'
      obtain ⟨p, rfl⟩ := hw'
      have HB2 := Lib.hid (kB p)
      clear hS0 kB k0 k1 k2 k3 k4 k5 hnS hcl
      go_wp2_with (fail)
      go_roundw
      case rel => exact ⟨k + 1, by omega, by go_num, by rw [HU.out], HB2.out⟩
      case measure => simp [intOf]; omega
    · obtain rfl : n = k + 1 := by omega
      have HV := Lib.hid HR.out
      rw [Nat.add_sub_cancel] at HV
      have hw : IntKind.i64.wrap (clUp ps (x, y) k - z) = clUp ps (x, y) k - z := IntWalk.i64_in _ (by omega)
      generalize clUp ps (x, y) k = V at *
      have HAC := Lib.hid hac
      clear hbel hac
      go_wp2
      go_ret
      exact ⟨ret_i HV.out.symm, HAC.out⟩
end Go.Proofs.Ythccbipjmheoaaa
namespace Go.Proofs.Ythccbipjmheoaaa
open Go.ChangeShapes Go.WideShapes Go.ChangeAt Go.RowKit Pm

/-- The clearance, and the error. -/
noncomputable def clrA (d : Dg) (ps : Pts) : Int := if (okD d && pathB ps) = true then clrV d ps else 0
def clrE (d : Dg) (ps : Pts) : Int := if (okD d && pathB ps) = true then 0 else 1
theorem clr_no {d : Dg} {ps : Pts} (h : okD d = false) : clrA d ps = 0 ∧ clrE d ps = 1 := by unfold clrA clrE; rw [h]; exact ⟨rfl, rfl⟩
theorem clr_out {d : Dg} {ps : Pts} (h : pathB ps = false) : clrA d ps = 0 ∧ clrE d ps = 1 := by unfold clrA clrE; rw [h]; simp
theorem clr_in {d : Dg} {ps : Pts} (h : okD d = true) (hq : pathB ps = true) : clrA d ps = clrV d ps ∧ clrE d ps = 0 := by unfold clrA clrE; rw [h, hq]; exact ⟨rfl, rfl⟩
set_option maxRecDepth 100000 in
theorem ispath_any (v : Value) (ps : Pts) (w : World) (h : PtsL w v ps) :
    Calls Try.prog 72 #[v] w fun e w' => e = .returned (.bool (pathB ps)) ∧ Below w.heap.size w w' := by
  have HP := Lib.hid h
  have HW := Lib.hid (fun (w' : World) (m : Nat) (hm : w'.heap.size = m) => within_int 1 64 _ [(ps.length : Int)] _ (show IntsAre .i64 (w'.alloc (.cells #[Value.int .i64 (ps.length : Int)] 3)) (.slice (some ⟨m, 0, none⟩) 1 1) [(ps.length : Int)] from hm ▸ ints_one w' .i64 (ps.length : Int) 3))
  have HA := Lib.hid (fun w' (h : PtsL w' v ps) => arepts_any v ps w' h.are)
  obtain ⟨a, c, rfl⟩ := pts_len h
  have hV : pathB ps = (inB 1 64 [(ps.length : Int)] && ps.all okB) := rfl
  generalize pathB ps = V at *
  generalize inB 1 64 [(ps.length : Int)] = b1 at *
  generalize ps.all okB = b2 at *
  have HV := Lib.hid hV
  clear hV h
  cases b1
  · go_enter Try.func72, Try.ntmps72
    go_wp2_with (go_at_call 80; (refine (HW.out _ _ rfl).mono ?_); rintro e w2 ⟨rfl, rfl⟩)
    go_ret
    exact ⟨retB HV.out.symm, by go_grown⟩
  · cases b2
    all_goals
      go_enter Try.func72, Try.ntmps72
      go_wp2_with (first
        | (go_at_call 80; (refine (HW.out _ _ rfl).mono ?_); rintro e w2 ⟨rfl, rfl⟩)
        | (go_at_call 81; (refine (HA.out _ (HP.out.below (by go_grown))).mono ?_); rintro e w3 ⟨rfl, hb⟩; have AC := Lib.hid (Below.next (a := w) (by go_grown) hb); clear hb))
      go_ret
      exact ⟨retB HV.out.symm, AC.out⟩
set_option maxRecDepth 100000 in
theorem spath_any (v : Value) (ps : Pts) (w : World) (h : PtsL w v ps) :
    Calls Try.prog 70 #[v] w fun e w' => e = .returned (.bool (pathB ps)) ∧ Below w.heap.size w w' := by
  have HP := Lib.hid h
  have HA := Lib.hid (fun w' (h : PtsL w' v ps) => sall_any v ps w' h.are)
  obtain ⟨a, c, rfl⟩ := pts_len h
  have hV : pathB ps = (inB 1 64 [(ps.length : Int)] && ps.all okB) := rfl
  generalize pathB ps = V at *
  generalize ps.all okB = b2 at *
  by_cases h1 : 1 ≤ (ps.length : Int)
  · by_cases h2 : (ps.length : Int) ≤ 64
    · have HV := Lib.hid (show V = b2 by rw [hV]; simp [inB, h1, h2])
      clear hV h
      cases b2
      all_goals
        go_enter Try.func70, Try.ntmps70
        go_wp2_with (go_at_call 100; (refine (HA.out _ (HP.out.below (by go_grown))).mono ?_); rintro e w3 ⟨rfl, hb⟩; have AC := Lib.hid (Below.next (a := w) (by go_grown) hb); clear hb)
        go_ret
        exact ⟨retB HV.out.symm, AC.out⟩
    · have HV := Lib.hid (show V = false by rw [hV]; simp [inB, h1, h2])
      clear hV h HA
      go_enter Try.func70, Try.ntmps70
      go_wp2
      go_ret
      exact ⟨retB HV.out.symm, by go_grown⟩
  · have HV := Lib.hid (show V = false by rw [hV]; simp [inB, h1])
    clear hV h HA
    go_enter Try.func70, Try.ntmps70
    go_wp2
    go_ret
    exact ⟨retB HV.out.symm, by go_grown⟩
set_option maxRecDepth 100000 in
set_option maxHeartbeats 2000000 in
theorem clearance_any (d : Dg) (v : Value) (ps : Pts) (w : World) (hs : d.1.size ≤ maxLen) (h : PtsC w v ps) :
    Calls Try.prog 40 #[.agg #[.string d.1, .int .i64 d.2.1, .int .i64 d.2.2.1, .int .i64 d.2.2.2], v] w fun e w' => e = .returned (.tuple #[.int .i64 (clrA d ps), .int .i64 (clrE d ps)]) ∧ Below w.heap.size w w' := by
  obtain ⟨s, x, y, z⟩ := d
  have HV := fun w' => validdg_any s x y z w' hs
  have HO := fun w' (h : PtsC w' v ps) => ispath_any v ps w' h.1
  have HP := Lib.hid h
  simp only
  obtain ⟨a, c, rfl⟩ := pts_len h.1
  cases hk : okD (s, x, y, z)
  · rw [hk] at HV
    have HV := Lib.hid HV
    obtain ⟨e1, e2⟩ := clr_no (ps := ps) hk
    rw [e1, e2]
    clear h hk HO e1 e2
    go_enter Try.func40, Try.ntmps40
    go_wp2_with (go_at_call 22; (refine (HV.out _).mono ?_); rintro e w1 ⟨rfl, hb⟩; have AC := Lib.hid (Below.next (a := w) (by go_grown) hb); clear hb)
    refine bodyPost_ret (v := .tuple #[.int .i64 0, .int .i64 1]) (by simp [results, Try.results40, go_sem, *]) rfl ⟨rfl, AC.out⟩
  · rw [hk] at HV
    have HV := Lib.hid HV
    obtain ⟨_, _, _, hz1, hz2⟩ := okD_parts hk
    cases hq : pathB ps
    · rw [hq] at HO
      have HO := Lib.hid HO
      obtain ⟨e1, e2⟩ := clr_out (d := (s, x, y, z)) hq
      rw [e1, e2]
      clear h hk hq e1 e2
      go_enter Try.func40, Try.ntmps40
      go_wp2_with (first
        | (go_at_call 22; (refine (HV.out _).mono ?_); rintro e w1 ⟨rfl, hb⟩; have AC := Lib.hid (Below.next (a := w) (by go_grown) hb); clear hb)
        | (go_at_call 72; (refine (HO.out _ (HP.out.below AC.out)).mono ?_); rintro e w2 ⟨rfl, hb⟩; have AC2 := Lib.hid (Below.next AC.out hb); clear hb))
      refine bodyPost_ret (v := .tuple #[.int .i64 0, .int .i64 1]) (by simp [results, Try.results40, go_sem, *]) rfl ⟨rfl, AC2.out⟩
    · rw [hq] at HO
      have HO := Lib.hid HO
      obtain ⟨p1, p2, p3⟩ := pathB_parts hq
      have HD := Lib.hid (fun w' h => clear_any (s, x, y, z) (.slice a ps.length c) ps w' p1 p2 ⟨hz1, hz2⟩ h)
      obtain ⟨e1, e2⟩ := clr_in hk hq
      rw [e1, e2]
      clear h hk hq e1 e2 p3
      generalize clrV (s, x, y, z) ps = R at *
      simp only at HD
      go_enter Try.func40, Try.ntmps40
      go_wp2_with (first
        | (go_at_call 22; (refine (HV.out _).mono ?_); rintro e w1 ⟨rfl, hb⟩; have x0 := cell_below (a := ⟨w.heap.size, 0, none⟩) (v := .string s) (by go_cell) hb; have x1 := cell_below (a := ⟨w.heap.size, 1, none⟩) (v := .int .i64 x) (by go_cell) hb; have x2 := cell_below (a := ⟨w.heap.size, 2, none⟩) (v := .int .i64 y) (by go_cell) hb; have x3 := cell_below (a := ⟨w.heap.size, 3, none⟩) (v := .int .i64 z) (by go_cell) hb; have AC := Lib.hid (Below.next (a := w) (by go_grown) hb); clear hb)
        | (go_at_call 72; (refine (HO.out _ (HP.out.below AC.out)).mono ?_); rintro e w2 ⟨rfl, hb⟩; have y0 := cell_below x0 hb; have y1 := cell_below x1 hb; have y2 := cell_below x2 hb; have y3 := cell_below x3 hb; have AC2 := Lib.hid (Below.next AC.out hb); clear hb)
        | (go_at_call 73; (refine (HD.out _ (HP.out.below AC2.out)).mono ?_); rintro e w3 ⟨rfl, hb⟩; have AC3 := Lib.hid (Below.next AC2.out hb); clear hb))
      refine bodyPost_ret (v := .tuple #[.int .i64 R, .int .i64 0]) (by simp [results, Try.results40, go_sem, *]) rfl ⟨rfl, AC3.out⟩
set_option maxRecDepth 100000 in
set_option maxHeartbeats 2000000 in
theorem sclearance_any (d : Dg) (v : Value) (ps : Pts) (w : World) (hs : d.1.size ≤ maxLen) (h : PtsL w v ps) :
    Calls Try.prog 38 #[.agg #[.string d.1, .int .i64 d.2.1, .int .i64 d.2.2.1, .int .i64 d.2.2.2], v] w fun e w' => e = .returned (.tuple #[.int .i64 (clrA d ps), .int .i64 (clrE d ps)]) ∧ Below w.heap.size w w' := by
  have HV := fun b w' h => sone_any b 0 d w' hs h
  have HO := fun w' (h : PtsL w' v ps) => spath_any v ps w' h
  have HP := Lib.hid h
  have D0 := Lib.hid (DgAt.new (w := w) (T := 44) d w.heap.size rfl)
  obtain ⟨a, c, rfl⟩ := pts_len h
  cases hk : okD d
  · rw [hk] at HV
    have HV := Lib.hid HV
    obtain ⟨e1, e2⟩ := clr_no (ps := ps) hk
    rw [e1, e2]
    clear h hk HO e1 e2
    go_enter Try.func38, Try.ntmps38
    go_wp2_with (go_at_call 54; (refine (HV.out _ _ D0.out).mono ?_); rintro e w1 ⟨rfl, hb⟩; have AC := Lib.hid (Below.next (a := w) (by go_grown) hb); clear hb)
    refine bodyPost_ret (v := .tuple #[.int .i64 0, .int .i64 1]) (by simp [results, Try.results38, go_sem, *]) rfl ⟨rfl, AC.out⟩
  · rw [hk] at HV
    have HV := Lib.hid HV
    obtain ⟨_, _, ho, hz1, hz2⟩ := okD_parts hk
    cases hq : pathB ps
    · rw [hq] at HO
      have HO := Lib.hid HO
      obtain ⟨e1, e2⟩ := clr_out (d := d) hq
      rw [e1, e2]
      clear h hk hq e1 e2 ho
      go_enter Try.func38, Try.ntmps38
      go_wp2_with (first
        | (go_at_call 54; (refine (HV.out _ _ D0.out).mono ?_); rintro e w1 ⟨rfl, hb⟩; have AC := Lib.hid (Below.next (a := w) (by go_grown) hb); clear hb)
        | (go_at_call 70; (refine (HO.out _ (HP.out.below AC.out)).mono ?_); rintro e w2 ⟨rfl, hb⟩; have AC2 := Lib.hid (Below.next AC.out hb); clear hb))
      refine bodyPost_ret (v := .tuple #[.int .i64 0, .int .i64 1]) (by simp [results, Try.results38, go_sem, *]) rfl ⟨rfl, AC2.out⟩
    · rw [hq] at HO
      have HO := Lib.hid HO
      obtain ⟨p1, p2, p3⟩ := pathB_parts hq
      have HD := Lib.hid (fun b w' h1 h => sclear_any b 0 d (.slice a ps.length c) ps w' p1 p2 ⟨hz1, hz2⟩ p3 ho h1 h)
      obtain ⟨e1, e2⟩ := clr_in hk hq
      rw [e1, e2]
      clear h hk hq e1 e2 p3 ho
      generalize clrV d ps = R at *
      go_enter Try.func38, Try.ntmps38
      go_wp2_with (first
        | (go_at_call 54; (refine (HV.out _ _ D0.out).mono ?_); rintro e w1 ⟨rfl, hb⟩; have D1 := Lib.hid (D0.out.below hb); have AC := Lib.hid (Below.next (a := w) (by go_grown) hb); clear hb)
        | (go_at_call 70; (refine (HO.out _ (HP.out.below AC.out)).mono ?_); rintro e w2 ⟨rfl, hb⟩; have D2 := Lib.hid (D1.out.below hb); have AC2 := Lib.hid (Below.next AC.out hb); clear hb)
        | (go_at_call 71; (refine (HD.out _ _ D2.out (HP.out.below AC2.out)).mono ?_); rintro e w3 ⟨rfl, hb⟩; have AC3 := Lib.hid (Below.next AC2.out hb); clear hb))
      refine bodyPost_ret (v := .tuple #[.int .i64 R, .int .i64 0]) (by simp [results, Try.results38, go_sem, *]) rfl ⟨rfl, AC3.out⟩
end Go.Proofs.Ythccbipjmheoaaa
