/- The iterator of segments, for a body that collects them. -/
import Derived.Test.YthccbipjmheoaaaAppS
import Derived.Deep.RegionHeld3
import Derived.Sort.CutIn
namespace Go.Proofs.Ythccbipjmheoaaa
open Go.ChangeShapes Go.WideShapes Go.ChangeAt Go.RowKit Go.Shelf Pm
attribute [local go_sem] Oper.semAt_some

set_option maxRecDepth 100000 in
set_option maxHeartbeats 4000000 in
theorem segs1_own (n : Nat) (hn : 1 ≤ n) (l Bn A bb off cap : Nat) (ps : Pts) (h2 : 2 ≤ ps.length) (h12 : ps.length ≤ 12) (hcap : ps.length ≤ cap) (hA : bb ≠ A) (hBA : Bn ≠ A) (s : ByteArray) (z : Int) (J Jx : List Nat → World → Prop)
    (W : World) (hAW : A < W.heap.size) (hN0 : ∀ g, ¬ OwnsB A W g) (hJ : AbidesFrom W.heap.size J) (_hJx : AbidesFrom W.heap.size Jx)
    (hY : ∀ pre x W1, J pre W1 → pre.length < ps.length - 1 → YieldAt Fence.wide (n - 1) Try.prog l #[segV ps x] W1 fun e W' =>
      (e = .returned (.bool true) ∧ J (pre ++ [x]) W' ∧ KeepR A W1 W') ∨ (e = .returned (.bool false) ∧ Jx (pre ++ [x]) W'))
    (hBn : ChnAt W Bn s (.slice (some ⟨bb, off, none⟩) ps.length cap) z)
    (hc : ∀ i, i < ps.length → W.cell? ⟨bb, off + i * 2, none⟩ = some (.int .i64 (ps.getD i (0, 0)).1) ∧ W.cell? ⟨bb, off + i * 2 + 1, none⟩ = some (.int .i64 (ps.getD i (0, 0)).2)) (h0 : J [] W) :
    CallsIn Fence.wide n Try.prog 112 #[.func (.yield l) #[] #[], .pointer (some ⟨Bn, 0, none⟩)] W fun e W' => (∃ v, e = .returned v) ∧
      ((∃ ys, ys = List.range (ps.length - 1) ∧ J ys W') ∨ (∃ pre, (∃ k, k ≤ ps.length - 1 ∧ pre = List.range k) ∧ Jx pre W')) := by
  refine callsIn_of_wp Try.func112 rfl trivial ?_ rfl
  simp only [Try.ntmps112, List.size_toArray, List.length_cons, List.length_nil, Nat.reduceAdd, Nat.reduceSub, Array.replicate_succ, Array.replicate_zero, List.push_toArray, List.append_toArray, List.nil_append, List.cons_append]
  have HBN := Lib.hid hBn
  have HC := Lib.hid hc
  obtain ⟨N, hN⟩ : ∃ N, N = ps.length := ⟨_, rfl⟩
  have HN := Lib.hid hN
  rw [← hN] at hBn h2 h12 hY hcap
  obtain ⟨q0, q1, q2⟩ := hBn
  have hN1 : (1 : Int) ≤ (N : Int) := by omega
  have hcap1 : ¬ cap = 1 := by omega
  have hcap2 : ¬ cap < 1 := by omega
  have hcap3 : 1 ≤ cap := by omega
  rw [← hN]
  clear hc hN
  gi_wp2
  gi_loopw [3, 12] (fun b i wr => ∃ k : Nat, k ≤ N - 1 ∧ i = .int .i64 k ∧ b = .int .i64 (begV ps k) ∧ J (List.range k) wr ∧ KeepR A W wr) (fun _ i _ => N - (intOf i).toNat)
  case atStart => exact ⟨0, Nat.zero_le _, rfl, rfl, h0, KeepR.below hAW (Below.refl _ _)⟩
  case round =>
    obtain ⟨k, hk, rfl, rfl, hJs, hKC⟩ := hrel
    by_cases hlt : k < N - 1
    · have hkn : (k : Int) < ((N - 1 : Nat) : Int) := by omega
      have c0 := hKC.cell hA (hN0 _) (HC.out k (by have := HN.out; omega)).1
      have c1 := hKC.cell hA (hN0 _) (HC.out k (by have := HN.out; omega)).2
      have d0 := hKC.cell hA (hN0 _) (HC.out (k + 1) (by have := HN.out; omega)).1
      have d1 := hKC.cell hA (hN0 _) (HC.out (k + 1) (by have := HN.out; omega)).2
      have q1' := hKC.cell hBA (hN0 _) q1
      rw [show off + (k + 1) * 2 = off + 2 + k * 2 by omega] at d0 d1
      obtain ⟨px, hpx⟩ : ∃ px, px = (ps.getD k (0, 0)).1 := ⟨_, rfl⟩
      obtain ⟨py, hpy⟩ : ∃ py, py = (ps.getD k (0, 0)).2 := ⟨_, rfl⟩
      obtain ⟨qx, hqx⟩ : ∃ qx, qx = (ps.getD (k + 1) (0, 0)).1 := ⟨_, rfl⟩
      obtain ⟨qy, hqy⟩ : ∃ qy, qy = (ps.getD (k + 1) (0, 0)).2 := ⟨_, rfl⟩
      rw [← hpx] at c0
      rw [← hpy] at c1
      rw [← hqx] at d0
      rw [← hqy] at d1
      have e1 : ∀ o, (wr.alloc o).cell? ⟨Bn, 1, none⟩ = some (.slice (some ⟨bb, off, none⟩) N cap) := fun o => cell_below q1' ((Below.refl _ _).alloc (Nat.le_refl _) o)
      have e2 : ∀ o, (wr.alloc o).cell? ⟨bb, off + k * 2, none⟩ = some (.int .i64 px) := fun o => cell_below c0 ((Below.refl _ _).alloc (Nat.le_refl _) o)
      have e3 : ∀ o, (wr.alloc o).cell? ⟨bb, off + k * 2 + 1, none⟩ = some (.int .i64 py) := fun o => cell_below c1 ((Below.refl _ _).alloc (Nat.le_refl _) o)
      have hkN : (k : Int) < (N : Int) := by omega
      have HS := Lib.hid (show segV ps k = .agg #[.int .i64 px, .int .i64 py, .int .i64 qx, .int .i64 qy, .int .i64 (begV ps k), .int .i64 (dL ps k)] by unfold segV; rw [hpx, hpy, hqx, hqy])
      have HD := Lib.hid (fun w' => show Calls Try.prog 113 #[.agg #[.int .i64 px, .int .i64 py], .agg #[.int .i64 qx, .int .i64 qy]] w' fun e w'' => e = .returned (.int .i64 (dL ps k)) ∧ Below w'.heap.size w' w'' from by rw [hpx, hpy, hqx, hqy]; exact distance_v (ps.getD k (0, 0)) (ps.getD (k + 1) (0, 0)) w')
      have HBE := Lib.hid (show begV ps (k + 1) = begV ps k + dL ps k from rfl)
      have hb0 := begV_bd ps k
      have hd0 := dL_bd ps k
      clear hpx hpy hqx hqy
      generalize dL ps k = dk at *
      have HBD := Lib.hid (And.intro (And.intro hb0 hd0) h12)
      generalize begV ps k = bk at *
      gi_wp2
      obtain ⟨W1, hW1⟩ : ∃ W1, W1 = ((wr.alloc (.cells #[.int .i64 qx, .int .i64 qy] 33)).alloc (.cells #[.int .i64 px, .int .i64 py] 33)) := ⟨_, rfl⟩
      have hr : H4 W1 wr.heap.size (wr.heap.size + 1) (.int .i64 qx) (.int .i64 qy) (.int .i64 px) (.int .i64 py) W1 := by subst hW1; exact ⟨by go_cell, by go_cell, by go_cell, by go_cell, Below.refl _ _⟩
      have RW := Lib.hid (show Below wr.heap.size wr W1 by subst hW1; go_grown)
      have hsz : wr.heap.size + 1 < W1.heap.size := by subst hW1; simp
      rw [← hW1]
      have WS := Lib.hid hW1
      clear hW1
      obtain ⟨B0, hB0⟩ : ∃ B0, B0 = wr.heap.size := ⟨_, rfl⟩
      obtain ⟨B1, hB1⟩ : ∃ B1, B1 = wr.heap.size + 1 := ⟨_, rfl⟩
      rw [← hB1, ← hB0] at hr
      rw [← hB1, ← hB0]
      have l0 : B0 < W1.heap.size := by omega
      have l1 : B1 < W1.heap.size := by omega
      have HB01 := Lib.hid (And.intro hB0 hB1)
      clear hB0 hB1 hsz
      gi_cut [7] from 22 (fun t wx => ∃ T : Nat, t = .pointer (some ⟨T, 0, none⟩) ∧ W1.heap.size ≤ T ∧ Below W1.heap.size W1 wx ∧ SegAt wx T px py qx qy bk dk)
      case rest =>
        obtain ⟨T, rfl, hT, hbx, hsg⟩ := hcut
        have BX := Lib.hid (Below.next RW.out hbx)
        have hJc : J (List.range k) wc := hJ _ _ _ none hJs (below_grown BX.out) (fun r e => by cases e)
        have hY1 := hY (List.range k) k wc hJc (by simpa using hlt)
        rw [HS.out] at hY1
        have hAr : A < wr.heap.size := Nat.lt_of_lt_of_le hAW hKC.1
        have KC2 := Lib.hid (hKC.t (KeepR.below hAr BX.out))
        have hTA : T ≠ A := by have h1 := hKC.1; have h2 := RW.out.size; omega
        have hTN : ¬ OwnsB A wc T := fun ho => by
          rcases hKC.2.2 T (ho.back hAr BX.out) with h1 | h1
          · exact hN0 _ h1
          · have h2 := RW.out.size
            omega
        obtain ⟨s0, s1, s2, s3, s4, s5⟩ := hsg
        obtain ⟨fn, tmps, assign, body, hy, hR⟩ := hY1
        have HY0 := Lib.hid hJ
        clear hJ hY
        gi_wp2
        refine hR.mono ?_
        rintro e W3 (⟨rfl, hJ3, hk3⟩ | ⟨rfl, hJx3⟩)
        · have t0 := hk3.cell hTA hTN s0
          have t1 := hk3.cell hTA hTN s1
          have t2 := hk3.cell hTA hTN s2
          have t3 := hk3.cell hTA hTN s3
          have t4 := hk3.cell hTA hTN s4
          have t5 := hk3.cell hTA hTN s5
          have hw : wrap64 (bk + dk) = bk + dk := IntWalk.wrap64_in _ (by have := HBD.out; omega)
          gi_wp2_with (refine ⟨trivial, ?_⟩; gi_at_call 114; refine (callsIn_wide.2 (segend_any _ _ _ _ _ _ _)).mono ?_; rintro e W4 ⟨rfl, hb4⟩)
          have hJ4 := HY0.out _ _ _ none hJ3 (below_grown hb4) (fun r e => by cases e)
          have hK4 := KC2.out.t (hk3.t (KeepR.below (Nat.lt_of_lt_of_le hAr (Nat.le_trans BX.out.size hk3.1)) hb4))
          go_roundw
          case rel => exact ⟨k + 1, by omega, by go_num, by rw [HBE.out], by rw [List.range_succ]; exact hJ4, hK4⟩
          case measure => simp [intOf]; omega
        · gi_wp2
          refine bodyPost_ret (results_none rfl _ _ _) rfl ?_
          exact ⟨⟨_, rfl⟩, .inr ⟨List.range k ++ [k], ⟨k + 1, by omega, List.range_succ.symm⟩, hJx3⟩⟩
      refine wpIn_wide.2 ?_
      have HR := Lib.hid hr
      obtain ⟨x0, x1, x2, x3, xb⟩ := hr
      go_region_held3 (fun w' => w'.cell? ⟨B0, 0, none⟩ = some (.int .i64 qx) ∧ w'.cell? ⟨B0, 1, none⟩ = some (.int .i64 qy) ∧ w'.cell? ⟨B1, 0, none⟩ = some (.int .i64 px) ∧ w'.cell? ⟨B1, 1, none⟩ = some (.int .i64 py) ∧ Below W1.heap.size W1 w')
        (first | (with_reducible assumption) | (with_reducible exact H4.set6 (Nat.le_refl _) l0 l1 (by assumption)) | (with_reducible exact H4.below (by assumption) (by assumption)) | (with_reducible exact H4.drew HR.out) | (with_reducible exact HR.out) | (with_reducible exact H4.drew (H4.alloc HR.out)) | (with_reducible exact H4.alloc (by assumption)) | (with_reducible exact H4.set6 (Nat.le_refl _) l0 l1 (by assumption)) | (with_reducible exact H4.swap (by assumption) l0 l1 (by assumption)))
        (first
          | (go_at_call 113; (with_reducible refine (HD.out _).mono ?_); rintro e w2 ⟨rfl, hb⟩; (first | (have Y := seg_fresh hb; obtain ⟨⟨y0, y1, y2, y3, y4, y5⟩, z0, z1, z2, z3, z4, z5⟩ := Y) | skip); have hs2 := hb.size; have hs3 : W1.heap.size ≤ w2.heap.size := (by first | exact hs2 | (simp at hs2; omega)); clear hs2))
      all_goals
        rename_i hH
        have BB := hH.2.2.2.2
        clear hH
        go_wp2_with (fail)
        go_meet
        first
          | exact ⟨_, rfl, hs3, BB, SegAt.new _ _ _ _ _ _ _ _⟩
          | exact ⟨_, rfl, Nat.le_refl _, BB, SegAt.sets ⟨y0, y1, y2, y3, y4, y5⟩ _ _ _ _ _ _⟩
    · obtain rfl : k = N - 1 := by omega
      gi_wp2
      go_end0
      exact ⟨⟨_, rfl⟩, .inl ⟨_, rfl, hJs⟩⟩
theorem segs_owns (n : Nat) (hn : 1 ≤ n) (Bn A bb off cap : Nat) (ps : Pts) (h2 : 2 ≤ ps.length) (h12 : ps.length ≤ 12) (hcap : ps.length ≤ cap) (hA : bb ≠ A) (hBA : Bn ≠ A) (s : ByteArray) (z : Int) (w : World) (hAw : A < w.heap.size) (hN0 : ∀ g, ¬ OwnsB A w g)
    (hBn : ChnAt w Bn s (.slice (some ⟨bb, off, none⟩) ps.length cap) z)
    (hc : ∀ i, i < ps.length → w.cell? ⟨bb, off + i * 2, none⟩ = some (.int .i64 (ps.getD i (0, 0)).1) ∧ w.cell? ⟨bb, off + i * 2 + 1, none⟩ = some (.int .i64 (ps.getD i (0, 0)).2)) :
    SeqStopsK Fence.wide n Try.prog 112 #[.pointer (some ⟨Bn, 0, none⟩)] (fun i : Nat => #[segV ps i]) (KeepR A) (fun ys => ys = List.range (ps.length - 1)) (fun pre => ∃ k, k ≤ ps.length - 1 ∧ pre = List.range k) (ps.length - 1) w :=
  fun l J Jx W hW hJ hJx hY h0 => segs1_own n hn l Bn A bb off cap ps h2 h12 hcap hA hBA s z J Jx W (Nat.lt_of_lt_of_le hAw hW.size) (fun g hg => hN0 g (hg.back hAw hW)) hJ hJx hY (hBn.below hW) (fun i hi => ⟨cell_below (hc i hi).1 hW, cell_below (hc i hi).2 hW⟩) h0
end Go.Proofs.Ythccbipjmheoaaa
