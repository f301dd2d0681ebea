/- The nearest segment of a channel: the model's. -/
import Derived.Test.YthccbipjmheoaaaNearM
namespace Go.Proofs.Ythccbipjmheoaaa
open Go.ChangeShapes Go.WideShapes Go.ChangeAt Go.RowKit Pm

set_option maxRecDepth 100000 in
set_option maxHeartbeats 2000000 in
theorem snearest_any (v : Value) (ps : Pts) (q : Int × Int) (w : World) (h2 : 2 ≤ ps.length) (h12 : ps.length ≤ 12) (hok : ∀ i, i < ps.length → okB (ps.getD i (0, 0)) = true) (hq : okB q = true) (h : PtsL w v ps) :
    Calls Try.prog 47 #[v, .agg #[.int .i64 q.1, .int .i64 q.2]] w fun e w' => e = .returned (.tuple #[.int .i64 ((nearUp ps q (ps.length - 2) + 1 : Nat) : Int), .int .i64 (gS ps q (nearUp ps q (ps.length - 2)))]) ∧ Below w.heap.size w w' := by
  obtain ⟨a, c, rfl, h⟩ := h
  rcases h with ⟨_, rfl⟩ | ⟨bb, off, cap, hv, _, hp⟩
  · simp at h2
  · simp only [Value.slice.injEq, true_and] at hv
    obtain ⟨rfl, rfl⟩ := hv
    have HP := Lib.hid hp
    have HG := Lib.hid (fun k (hk : k + 1 < ps.length) w' => sgap_v (ps.getD k (0, 0)) (ps.getD (k + 1) (0, 0)) q (hok k (by omega)) (hok (k + 1) hk) hq w')
    obtain ⟨n, hn⟩ : ∃ n, n = ps.length := ⟨_, rfl⟩
    have HN := Lib.hid hn
    rw [← hn] at h2 h12 ⊢
    have d0 := (hp 0 (by omega)).1
    have d1 := (hp 0 (by omega)).2
    have d2 := (hp 1 (by omega)).1
    have d3 := (hp 1 (by omega)).2
    simp only [Nat.zero_mul, Nat.add_zero, Nat.one_mul] at d0 d1 d2 d3
    have HD := Lib.hid (HG.out 0 (by omega))
    have HG0 := Lib.hid (show gS ps q 0 = gpV (ps.getD 0 (0, 0)) (ps.getD 1 (0, 0)) q from rfl)
    have hn0 : (0 : Int) < (n : Int) := by omega
    have hn1 : (1 : Int) < (n : Int) := by omega
    rw [Nat.zero_add] at HD
    obtain ⟨qx, qy⟩ := q
    simp only at HD ⊢
    clear hn hp hok
    generalize gpV (ps.getD 0 (0, 0)) (ps.getD 1 (0, 0)) (qx, qy) = g0 at *
    generalize (ps.getD 0 (0, 0)).1 = x0 at *
    generalize (ps.getD 0 (0, 0)).2 = y0 at *
    generalize (ps.getD 1 (0, 0)).1 = x' at *
    generalize (ps.getD 1 (0, 0)).2 = y' at *
    go_enter Try.func47, Try.ntmps47
    go_wp2_with (fail)
    have ac : Below w.heap.size w (w.alloc (.cells #[.int .i64 qx, .int .i64 qy] 33)) := (Below.refl _ _).alloc (Nat.le_refl _) _
    have z0 : (w.alloc (.cells #[.int .i64 qx, .int .i64 qy] 33)).cell? ⟨w.heap.size, 0, none⟩ = some (.int .i64 qx) := by simp
    have z1 : (w.alloc (.cells #[.int .i64 qx, .int .i64 qy] 33)).cell? ⟨w.heap.size, 1, none⟩ = some (.int .i64 qy) := by simp
    replace d0 := cell_below d0 ac
    replace d1 := cell_below d1 ac
    replace d2 := cell_below d2 ac
    replace d3 := cell_below d3 ac
    have KQ := Lib.hid (And.intro z0 z1)
    generalize w.alloc (.cells #[.int .i64 qx, .int .i64 qy] 33) = W1 at *
    obtain ⟨S, hcl, hS0, k0, k1, k2, k3, k4, k5, kB⟩ := clx6n d0 d1 d2 d3 z0 z1 ac
    have hnS : Nonempty (Clx S) := ⟨⟨_, hS0⟩⟩
    clear d0 d1 d2 d3 z0 z1
    refine wp_region_clx S (by kernel_rfl) (by kernel_rfl) hS0 ?_
    repeat (go_big_quiet_step ((go_at_call 79; exact Clx.call hcl _ (HD.out _))))
    refine wpQuiet_nil ?_
    intro _ hw'
    obtain ⟨p, rfl⟩ := hw'
    have HB2 := Lib.hid (kB p)
    have Z0 := Lib.hid (And.intro (k4 p) (k5 p))
    generalize p.v = W2 at *
    clear hS0 kB k0 k1 k2 k3 k4 k5 hnS hcl p KQ ac W1
    have HG00 := Lib.hid (show g0 = gS ps (qx, qy) 0 from HG0.out.symm)
    have hzl : w.heap.size < W2.heap.size := seg_lt Z0.out.1
    go_wp2_with (fail)
    go_loopw [6, 7, 8] (fun bi le i wr => ∃ k : Nat, k + 2 ≤ n ∧ i = .int .i64 ((k + 2 : Nat) : Int) ∧ bi = .int .i64 ((nearUp ps (qx, qy) k + 1 : Nat) : Int) ∧ le = .int .i64 (gS ps (qx, qy) (nearUp ps (qx, qy) k)) ∧ Below w.heap.size w wr ∧ wr.cell? ⟨w.heap.size, 0, none⟩ = some (.int .i64 qx) ∧ wr.cell? ⟨w.heap.size, 1, none⟩ = some (.int .i64 qy)) (fun _ _ i _ => n - (intOf i).toNat)
    case atStart => exact ⟨0, h2, rfl, rfl, by rw [HG00.out]; rfl, HB2.out, Z0.out.1, Z0.out.2⟩
    case round =>
      clear HD HG0 HG00 hn0 hn1 Z0 HB2 hzl W2
      obtain ⟨k, hk, rfl, rfl, rfl, hbel, z0, z1⟩ := hrel
      by_cases hlt : k + 2 < n
      · obtain ⟨j, hj⟩ : ∃ j, j = k + 2 := ⟨_, rfl⟩
        have hkn : (j : Int) < (n : Int) := by omega
        have hkm : ((k + 1 : Nat) : Int) < (n : Int) := by omega
        have d0 := cell_below (HP.out (k + 1) (by have := HN.out; omega)).1 hbel
        have d1 := cell_below (HP.out (k + 1) (by have := HN.out; omega)).2 hbel
        have d2 := cell_below (HP.out (k + 2) (by have := HN.out; omega)).1 hbel
        have d3 := cell_below (HP.out (k + 2) (by have := HN.out; omega)).2 hbel
        obtain ⟨m, hm⟩ : ∃ m, m = k + 1 := ⟨_, rfl⟩
        have HD := Lib.hid (HG.out (k + 1) (by have := HN.out; omega))
        have HUP := Lib.hid (show nearUp ps (qx, qy) (k + 1) = if gpV (ps.getD (k + 1) (0, 0)) (ps.getD (k + 1 + 1) (0, 0)) (qx, qy) < gS ps (qx, qy) (nearUp ps (qx, qy) k) then k + 1 else nearUp ps (qx, qy) k from rfl)
        have HG1 := Lib.hid (show gS ps (qx, qy) (k + 1) = gpV (ps.getD (k + 1) (0, 0)) (ps.getD (k + 1 + 1) (0, 0)) (qx, qy) from rfl)
        rw [show k + 1 + 1 = k + 2 by omega] at HD HUP HG1
        generalize hbi : nearUp ps (qx, qy) k = bi at *
        generalize hle : gS ps (qx, qy) bi = le at *
        rw [← hj] at HD HUP HG1 d2 d3 ⊢
        rw [← hm] at HD HUP HG1 d0 d1 hkm
        have hidx : (j : Int) - 1 = (m : Int) := by omega
        have hkp : (0 : Int) < (j : Int) := by omega
        have hm0 : (0 : Int) ≤ (m : Int) := by omega
        try simp only at HD
        generalize gpV (ps.getD m (0, 0)) (ps.getD j (0, 0)) (qx, qy) = g1 at *
        generalize (ps.getD m (0, 0)).1 = x0 at *
        generalize (ps.getD m (0, 0)).2 = y0 at *
        generalize (ps.getD j (0, 0)).1 = x' at *
        generalize (ps.getD j (0, 0)).2 = y' at *
        have HJM := Lib.hid (And.intro hj hm)
        have HLE := Lib.hid (And.intro hbi hle)
        have HLT := Lib.hid hlt
        clear hj hm hbi hle hlt hk
        have hbelw : wr.heap.size ≤ wr.heap.size := Nat.le_refl _
        go_wp2_with (fail)
        obtain ⟨S, hcl, hS0, k0, k1, k2, k3, k4, k5, kB⟩ := clx6n d0 d1 d2 d3 z0 z1 hbel
        have hnS : Nonempty (Clx S) := ⟨⟨_, hS0⟩⟩
        clear d0 d1 d2 d3 z0 z1 hbel
        refine wp_region_clx S (by kernel_rfl) (by kernel_rfl) hS0 ?_
        repeat (go_big_quiet_step ((go_at_call 79; exact Clx.call hcl _ (HD.out _))))
        refine wpQuiet_nil ?_
        intro _ hw'
        obtain ⟨p, rfl⟩ := hw'
        have HB2 := Lib.hid (And.intro (kB p) (And.intro (k4 p) (k5 p)))
        generalize p.v = W2 at *
        clear hS0 kB k0 k1 k2 k3 k4 k5 hnS hcl p
        by_cases hg : g1 < le
        · have HUP2 := Lib.hid (HUP.out.trans (if_pos hg))
          go_wp2_with (fail)
          go_roundw
          case rel => exact ⟨m, by have := HLT.out; have := HJM.out; omega, by have := HJM.out; congr 1; omega, by rw [HUP2.out]; have := HJM.out; congr 1; omega, by rw [HUP2.out, HG1.out], HB2.out.1, HB2.out.2.1, HB2.out.2.2⟩
          case measure => simp [intOf]; omega
        · have HUP2 := Lib.hid (HUP.out.trans (if_neg hg))
          go_wp2_with (fail)
          go_roundw
          case rel => exact ⟨m, by have := HLT.out; have := HJM.out; omega, by have := HJM.out; congr 1; omega, by rw [HUP2.out], by rw [HUP2.out, HLE.out.2], HB2.out.1, HB2.out.2.1, HB2.out.2.2⟩
          case measure => simp [intOf]; omega
      · obtain rfl : n = k + 2 := by omega
        go_wp2_with (fail)
        refine bodyPost_ret (v := .tuple #[.int .i64 ((nearUp ps (qx, qy) k + 1 : Nat) : Int), .int .i64 (gS ps (qx, qy) (nearUp ps (qx, qy) k))]) (by simp [results, Try.results47, go_sem]) rfl ⟨by rw [show k + 2 - 2 = k by omega], hbel⟩
end Go.Proofs.Ythccbipjmheoaaa
