/- slices.Collect of the segments. -/
import Derived.Test.YthccbipjmheoaaaSegO
namespace Go.Proofs.Ythccbipjmheoaaa
open Go.ChangeShapes Go.WideShapes Go.ChangeAt Go.RowKit Go.Shelf Pm
attribute [local go_sem] Oper.semAt_some

theorem segcells (W : World) (ps : Pts) (x : Nat) (T : TypeId) : ∀ j u, (segC ps x).toList[j]? = some u → (W.alloc (.cells #[.int .i64 (ps.getD x (0, 0)).1, .int .i64 (ps.getD x (0, 0)).2, .int .i64 (ps.getD (x + 1) (0, 0)).1, .int .i64 (ps.getD (x + 1) (0, 0)).2, .int .i64 (begV ps x), .int .i64 (dL ps x)] T)).cell? ((⟨W.heap.size, 0, none⟩ : Addr).add j) = some u := by
  intro j u hj
  rw [Addr.add_lit]
  refine (BlkAt.new W _ T).cell _ _ ?_
  simpa [segC] using hj
theorem keepr_app {W w1 : World} {B : Nat} {v v' : Value} {tmp : Obj} {T : TypeId} (hv : Boxed W B T v) (hgrow : (W.alloc tmp).grownBy w1 v.ownBlock) (hnew : NewRow (W.alloc tmp) w1 v v') (hv2 : Boxed (w1.setCell ⟨B, 0, none⟩ v') B T v') : KeepR B W (w1.setCell ⟨B, 0, none⟩ v') := by
  have hs := hgrow.size
  simp only [World.size_alloc] at hs
  have hss : (w1.setCell ⟨B, 0, none⟩ v').heap.size = w1.heap.size := by simp [World.setCell]
  refine ⟨by omega, fun b hb hcb hn => ?_, fun g hg => ?_⟩
  · obtain ⟨cs, U, fr, hc⟩ := hcb
    have hl := (Array.getElem?_eq_some_iff.1 hc).1
    rw [Below.heap_setCell _ _ _ _ (fun e => hb e), hgrow.block b (by simp; omega) (fun e => hn ⟨v, T, _, hv, e.symm⟩), Below.heap_alloc _ _ _ hl]
  · obtain ⟨u, t, fr, h1, h2⟩ := hg
    rw [show (w1.setCell ⟨B, 0, none⟩ v').heap[B]? = _ from hv2] at h1
    simp only [Option.some.injEq, Obj.cells.injEq, Array.mk.injEq, List.cons.injEq, and_true] at h1
    rw [← h1.1] at h2
    rcases hnew with h3 | ⟨g2, h3, h4, h5⟩
    · exact .inl ⟨v, T, _, hv, by rw [← h3]; exact h2⟩
    · rw [h3] at h2
      obtain rfl : g2 = g := by simpa using h2
      simp only [World.size_alloc] at h4
      exact .inr (by omega)
/-- A row of segments of the call's own. -/
def SegsRet (ps : Pts) (w : World) (e : Ending) (w' : World) : Prop := ∃ v, e = .returned v ∧ OwnSg w' w.heap.size v ps (List.range (ps.length - 1)) ∧ Below w.heap.size w w'
set_option maxRecDepth 100000 in
set_option maxHeartbeats 2000000 in
theorem appseq_in (n : Nat) (hn : 3 ≤ n) (Bn bb off cap : Nat) (ps : Pts) (h2 : 2 ≤ ps.length) (h12 : ps.length ≤ 12) (hcap : ps.length ≤ cap) (s : ByteArray) (z : Int) (w : World)
    (hBn : ChnAt w Bn s (.slice (some ⟨bb, off, none⟩) ps.length cap) z)
    (hc : ∀ i, i < ps.length → w.cell? ⟨bb, off + i * 2, none⟩ = some (.int .i64 (ps.getD i (0, 0)).1) ∧ w.cell? ⟨bb, off + i * 2 + 1, none⟩ = some (.int .i64 (ps.getD i (0, 0)).2)) :
    CallsIn Fence.wide n Try.prog 111 #[.slice none 0 0, .func (.func 112) #[] #[.pointer (some ⟨Bn, 0, none⟩)]] w (SegsRet ps w) := by
  have h1 : 1 ≤ n := by omega
  refine callsIn_of_wp_marks Try.func111 rfl trivial ?_ rfl
  simp only [Try.ntmps111, List.size_toArray, List.length_cons, List.length_nil, Nat.reduceAdd, Nat.reduceSub, Array.replicate_succ, Array.replicate_zero, List.push_toArray, List.append_toArray, List.nil_append, List.cons_append]
  gi_wp2
  have hbb : bb < w.heap.size := seg_lt (hc 0 (by omega)).1
  have hBl : Bn < w.heap.size := seg_lt hBn.1
  obtain ⟨W0, hW0⟩ : ∃ W0, W0 = w.alloc (.cells #[.slice none 0 0] 109) := ⟨_, rfl⟩
  have bV : Boxed W0 w.heap.size 109 (.slice none 0 0) := by subst hW0; exact Boxed.new w _ _
  have hB0 : Below w.heap.size w W0 := by subst hW0; go_grown
  have hsz : W0.heap.size = w.heap.size + 1 := by subst hW0; simp
  have hN0 : ∀ g, ¬ OwnsB w.heap.size W0 g := by
    rintro g ⟨v, t, fr, h1, h2⟩
    rw [show W0.heap[w.heap.size]? = _ from bV] at h1
    simp at h1
    rw [← h1.1] at h2
    simp [Value.ownBlock] at h2
  rw [← hW0]
  clear hW0
  refine wpIn_rangeFunc_ownH rfl h1 (gf := 112) (lb := #[.pointer (some ⟨Bn, 0, none⟩)]) rfl trivial (enters_of Try.func112 (by kernel_rfl) rfl)
    (segs_owns (n - 1) (by omega) Bn w.heap.size bb off cap ps h2 h12 hcap (by omega) (by omega) s z W0 (by omega) hN0 (hBn.below hB0) (fun i hi => ⟨cell_below (hc i hi).1 hB0, cell_below (hc i hi).2 hB0⟩)) KeepR.t (fun W l o o' hl h ho _ => KeepR.b W l o o' (by omega) h ho) (Below.refl _ _) (fun _ => rfl)
    (fun pre W => (∃ v, Boxed W w.heap.size 109 v ∧ W.ownsRow w.heap.size 79 6 v pre.length (segsV ps pre) ∧ True) ∧ Below w.heap.size w W)
    (fun _ _ _ => False)
    (OwnFrom.and (Own.from (holdsRow_own w.heap.size w.heap.size 109 79 6 (fun pre : List Nat => pre.length) (fun pre => segsV ps pre) (fun _ _ => True)) _) (ownFrom_below (Nat.le_refl _) (by omega)))
    (fun _ _ _ _ _ hs _ _ => hs)
    ⟨⟨.slice none 0 0, bV, World.ownsRow_nil _ _ _ _, trivial⟩, hB0⟩
    (fun x a' W => ∃ Bx, w.heap.size < Bx ∧ BlkAt W Bx (segC ps x) 79 ∧
      a' = { tmps := #[.slice none 0 0, .func (.func 112) #[] #[.pointer (some ⟨Bn, 0, none⟩)], .pointer (some ⟨w.heap.size, 0, none⟩), undef, .slice none 0 0, .pointer (some ⟨Bx, 0, none⟩), .func (.func 112) #[] #[.pointer (some ⟨Bn, 0, none⟩)], segV ps x, undef, undef, undef, undef, undef], defers := [] })
    (fun x _ _ X Y row hs hg hr => by obtain ⟨Bx, h1, h2, h3⟩ := hs; exact ⟨Bx, h1, h2.keep hg (fun r e => (hr r e).2), h3⟩)
    ?assign ?body ?done ?stop
  case assign =>
    rintro l pre x W K ⟨⟨v, bV1, hr1, _⟩, hB1⟩ hK
    unfold segV at hK ⊢
    gi_wp2
    exact hK _ _ ((KeepsOthers.alloc _ _).from _) (KeepR.below bV1.lt ((Below.refl _ W).alloc (Nat.le_refl _) _)) ⟨⟨v, bV1.alloc _, hr1.alloc _, trivial⟩, hB1.alloc hB1.size _⟩ ⟨W.heap.size, bV1.lt, BlkAt.new W _ _, rfl⟩
  case body =>
    rintro l pre x a' W hl ⟨r, hr⟩ ⟨⟨v, bV1, hr1, _⟩, hB1⟩ ⟨Bx, hBx, bX, rfl⟩ hlt
    have cV := bV1.cell
    unfold segC at bX
    have c0 := bX.cell 0 _ rfl
    have c1 := bX.cell 1 _ rfl
    have c2 := bX.cell 2 _ rfl
    have c3 := bX.cell 3 _ rfl
    have c4 := bX.cell 4 _ rfl
    have c5 := bX.cell 5 _ rfl
    gi_wp2_with (gi_at_builtin; refine wpListIn_app_seg rfl _ _ rfl _ w.heap.size v ps pre x ⟨W.heap.size, 0, none⟩ rfl rfl (hr1.alloc _) (by have := hB1.size; simp; omega) (by omega) (segcells W ps x _) ?_; intro v' w1 hown' hgrow hnew; have hown2 : w1.ownsRow w.heap.size 79 6 v' (pre.length + 1) (segsV ps (pre ++ [x])) := (by simpa [OwnSg] using hown'); obtain ⟨g', cap', rfl⟩ := ownsRow_succ hown2; obtain ⟨hv1, hv2, hr2, hk2, hb2⟩ := bV1.appended (by decide) hr1 hB1.size (Nat.le_refl _) hown2 hgrow; have hkr := keepr_app bV1 hgrow hnew hv2; have hc1 := hv1.cell; have hf1 := hv1.frozen)
    exact ⟨hk2.from _, hkr, ⟨_, hv2, by rw [List.length_append, List.length_singleton]; exact hr2, trivial⟩, hB1.trans hb2⟩
  case done =>
    rintro D ys W hD rfl ⟨⟨v, bV1, hr1, _⟩, hB1⟩ hK
    have cV := bV1.cell
    gi_wp2
    refine ⟨by simp, .inl ⟨_, _, rfl, run_takeDeferred hK, ?_⟩⟩
    exact ⟨_, results_tmp rfl _ _ _, v, rfl, ownsRow_putObj hr1 _ hK rfl, hB1.trans (belowK_b (w := w) (Nat.le_refl _) W D _ _ (by omega) hK rfl rfl)⟩
  case stop =>
    rintro D c pre W _ _ h _
    exact h.elim
theorem collect_any (Bn bb off cap : Nat) (ps : Pts) (h2 : 2 ≤ ps.length) (h12 : ps.length ≤ 12) (hcap : ps.length ≤ cap) (s : ByteArray) (z : Int) (w : World)
    (hBn : ChnAt w Bn s (.slice (some ⟨bb, off, none⟩) ps.length cap) z)
    (hc : ∀ i, i < ps.length → w.cell? ⟨bb, off + i * 2, none⟩ = some (.int .i64 (ps.getD i (0, 0)).1) ∧ w.cell? ⟨bb, off + i * 2 + 1, none⟩ = some (.int .i64 (ps.getD i (0, 0)).2)) :
    Calls Try.prog 84 #[.func (.func 112) #[] #[.pointer (some ⟨Bn, 0, none⟩)]] w (SegsRet ps w) := by
  have HA := Lib.hid ((callsIn_wide (n := 3)).1 (appseq_in 3 (Nat.le_refl _) Bn bb off cap ps h2 h12 hcap s z w hBn hc))
  clear hBn hc
  go_enter Try.func84, Try.ntmps84
  go_wp2_with (go_at_call 111; refine HA.out.mono ?_; rintro e w1 ⟨v, rfl, ho, hb⟩)
  go_ret
  exact ⟨v, rfl, ho, hb⟩
end Go.Proofs.Ythccbipjmheoaaa
