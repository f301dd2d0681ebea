/- The length of a channel: the program's. -/
import Derived.Test.YtcoldhdghcdaeaaSegI
namespace Go.Proofs.Ytcoldhdghcdaeaa
open Go.ChangeShapes Go.WideShapes Go.ChangeAt Go.RowKit Go.Shelf Pm
attribute [local go_sem] Oper.semAt_some

/-- The iterator's value, for whoever walks it. -/
theorem segs_stops (n : Nat) (hn : 1 ≤ n) (Bn A bb off cap : Nat) (ps : Pts) (h2 : 2 ≤ ps.length) (h12 : ps.length ≤ 12) (hcap : ps.length ≤ cap) (hA : bb ≠ A) (hBA : Bn ≠ A) (s : ByteArray) (z : Int) (w : World) (hAw : A < w.heap.size)
    (hBn : ChnAt w Bn s (.slice (some ⟨bb, off, none⟩) ps.length cap) z)
    (hc : ∀ i, i < ps.length → w.cell? ⟨bb, off + i * 2, none⟩ = some (.int .i64 (ps.getD i (0, 0)).1) ∧ w.cell? ⟨bb, off + i * 2 + 1, none⟩ = some (.int .i64 (ps.getD i (0, 0)).2)) :
    SeqStopsK Fence.wide n Try.prog 103 #[.pointer (some ⟨Bn, 0, none⟩)] (fun i : Nat => #[segV ps i]) (KeepC A) (fun ys => ys = List.range (ps.length - 1)) (fun pre => ∃ k, k ≤ ps.length - 1 ∧ pre = List.range k) (ps.length - 1) w :=
  fun l J Jx W hW hJ hJx hY h0 => segs1_in n hn l Bn A bb off cap ps h2 h12 hcap hA hBA s z J Jx W (Nat.lt_of_lt_of_le hAw hW.size) hJ hJx hY (hBn.below hW) (fun i hi => ⟨cell_below (hc i hi).1 hW, cell_below (hc i hi).2 hW⟩) h0

/-- A block of cells. -/
def BlkAt (W : World) (B : Nat) (cs : Array Value) (t : TypeId) : Prop := W.heap[B]? = some (.cells cs t (0, 0))
theorem BlkAt.lt {W : World} {B : Nat} {cs : Array Value} {t : TypeId} (h : BlkAt W B cs t) : B < W.heap.size := (Array.getElem?_eq_some_iff.1 h).1
theorem BlkAt.new (W : World) (cs : Array Value) (t : TypeId) : BlkAt (W.alloc (.cells cs t)) W.heap.size cs t := World.alloc_heap_new W _
theorem BlkAt.own {β : Type} (B : Nat) (t : TypeId) (f : β → Array Value) : Own (fun s W => BlkAt W B (f s) t) := fun s X Y row hs hg hrow =>
  (hg.block B hs.lt (fun e' => by obtain ⟨o, ho, hc⟩ := hrow B e'.symm; rw [show X.heap[B]? = _ from hs] at ho; cases ho; cases hc)).trans hs
theorem BlkAt.cell {W : World} {B : Nat} {cs : Array Value} {t : TypeId} (h : BlkAt W B cs t) (j : Nat) (v : Value) (hv : cs[j]? = some v) : W.cell? ⟨B, j, none⟩ = some v := by
  unfold BlkAt at h
  simp [World.cell?, h, hv]
theorem Own.ofFrom {β : Type} {I : β → World → Prop} (h : Own I) (B : Nat) : OwnFrom B I := Own.from h B

/-- The sum of what has come. -/
noncomputable def sumD (ps : Pts) (pre : List Nat) : Int := pre.foldl (fun s i => wrap64 (s + dL ps i)) 0
theorem sumD_snoc (ps : Pts) (pre : List Nat) (i : Nat) : sumD ps (pre ++ [i]) = wrap64 (sumD ps pre + dL ps i) := by simp [sumD]
theorem sumD_range (ps : Pts) : ∀ k, k ≤ 12 → sumD ps (List.range k) = begV ps k
  | 0, _ => rfl
  | k + 1, h => by
    rw [List.range_succ, sumD_snoc, sumD_range ps k (by omega)]
    have := begV_bd ps k
    have := dL_bd ps k
    exact IntWalk.wrap64_in _ (by omega)

set_option maxRecDepth 100000 in
set_option maxHeartbeats 2000000 in
theorem chlen_in (n : Nat) (hn : 3 ≤ n) (bb off cap : Nat) (ps : Pts) (h2 : 2 ≤ ps.length) (h12 : ps.length ≤ 12) (hcap : ps.length ≤ cap) (s : ByteArray) (z : Int) (w : World)
    (hc : ∀ i, i < ps.length → w.cell? ⟨bb, off + i * 2, none⟩ = some (.int .i64 (ps.getD i (0, 0)).1) ∧ w.cell? ⟨bb, off + i * 2 + 1, none⟩ = some (.int .i64 (ps.getD i (0, 0)).2)) :
    CallsIn Fence.wide n Try.prog 49 #[.agg #[.string s, .slice (some ⟨bb, off, none⟩) ps.length cap, .int .i64 z]] w fun e w' => e = .returned (.int .i64 (begV ps (ps.length - 1))) ∧ Below w.heap.size w w' := by
  have h1 : 1 ≤ n := by omega
  refine callsIn_of_wp_marks Try.func49 rfl trivial ?_ rfl
  simp only [Try.ntmps49, List.size_toArray, List.length_cons, List.length_nil, Nat.reduceAdd, Nat.reduceSub, Array.replicate_succ, Array.replicate_zero, List.push_toArray, List.append_toArray, List.nil_append, List.cons_append]
  gi_wp2_with (refine ⟨trivial, ?_⟩; gi_at_call 82; refine (callsIn_wide.2 (segs_any _ _ _ _ _ _)).mono ?_; rintro e w' ⟨rfl, rfl⟩)
  have hbb : bb < w.heap.size := seg_lt (hc 0 (by omega)).1
  obtain ⟨W0, hW0⟩ : ∃ W0, W0 = (((w.alloc (.cells #[.string s, .slice (some ⟨bb, off, none⟩) ps.length cap, .int .i64 z] 29)).alloc (.cells #[.int .i64 0] 2)).alloc (.cells #[.string s, .slice (some ⟨bb, off, none⟩) ps.length cap, .int .i64 z] 29)) := ⟨_, rfl⟩
  have bS : Boxed W0 (w.heap.size + 1) 2 (.int .i64 0) := by
    subst hW0
    have h := (Boxed.new (w.alloc (.cells #[.string s, .slice (some ⟨bb, off, none⟩) ps.length cap, .int .i64 z] 29)) 2 (.int .i64 0)).alloc (.cells #[.string s, .slice (some ⟨bb, off, none⟩) ps.length cap, .int .i64 z] 29)
    rw [World.size_alloc] at h
    exact h
  have hB0 : Below w.heap.size w W0 := by subst hW0; go_grown
  have hsz : W0.heap.size = w.heap.size + 3 := by subst hW0; simp
  have hBn : ChnAt W0 (w.heap.size + 1 + 1) s (.slice (some ⟨bb, off, none⟩) ps.length cap) z := by subst hW0; exact ChnAt.new _ _ _ _ (by simp)
  rw [← hW0]
  clear hW0
  refine wpIn_rangeFunc_ownH rfl h1 (gf := 103) (lb := #[.pointer (some ⟨w.heap.size + 1 + 1, 0, none⟩)]) rfl trivial (enters_of Try.func103 (by kernel_rfl) rfl)
    (segs_stops (n - 1) (by omega) (w.heap.size + 1 + 1) (w.heap.size + 1) bb off cap ps h2 h12 hcap (by omega) (by omega) s z W0 (by omega) hBn (fun i hi => ⟨cell_below (hc i hi).1 hB0, cell_below (hc i hi).2 hB0⟩)) KeepC.t (fun W l o o' _ h ho _ => KeepC.b W l o o' h ho) (Below.refl _ _) (fun _ => rfl)
    (fun pre W => Boxed W (w.heap.size + 1) 2 (.int .i64 (sumD ps pre)) ∧ Below w.heap.size w W)
    (fun _ _ _ => False)
    (OwnFrom.and (Own.from (boxed_own _ _ _) _) (ownFrom_below (Nat.le_refl _) (by omega)))
    (fun _ _ _ _ _ hs _ _ => hs)
    ⟨bS, hB0⟩
    (fun x a' W => ∃ Bx, w.heap.size + 1 < Bx ∧ BlkAt W Bx #[.int .i64 (ps.getD x (0, 0)).1, .int .i64 (ps.getD x (0, 0)).2, .int .i64 (ps.getD (x + 1) (0, 0)).1, .int .i64 (ps.getD (x + 1) (0, 0)).2, .int .i64 (begV ps x), .int .i64 (dL ps x)] 73 ∧
      a' = { tmps := #[.agg #[.string s, .slice (some ⟨bb, off, none⟩) ps.length cap, .int .i64 z], .pointer (some ⟨w.heap.size, 0, none⟩), .int .i64 0, .pointer (some ⟨w.heap.size + 1, 0, none⟩), .pointer (some ⟨Bx, 0, none⟩), .agg #[.string s, .slice (some ⟨bb, off, none⟩) ps.length cap, .int .i64 z], .func (.func 103) #[] #[.pointer (some ⟨w.heap.size + 1 + 1, 0, none⟩)], segV ps x, undef, undef, undef, undef, undef], defers := [] })
    (fun x _ _ X Y row hs hg hr => by obtain ⟨Bx, h1, h2, h3⟩ := hs; exact ⟨Bx, h1, BlkAt.own Bx _ (fun (_ : Unit) => _) () X Y row h2 hg (fun r e => (hr r e).2), h3⟩)
    ?assign ?body ?done ?stop
  case assign =>
    rintro l pre x W K ⟨bS1, hB1⟩ hK
    unfold segV at hK ⊢
    gi_wp2
    exact hK _ _ ((KeepsOthers.alloc _ _).from _) (KeepC.below ((Below.refl _ W).alloc (Nat.le_refl _) _)) ⟨bS1.alloc _, hB1.alloc hB1.size _⟩ ⟨W.heap.size, bS1.lt, BlkAt.new W _ _, rfl⟩
  case body =>
    rintro l pre x a' W hl ⟨r, hr⟩ ⟨bS1, hB1⟩ ⟨Bx, hBx, bX, rfl⟩ hlt
    have cS := bS1.cell
    have fS := bS1.frozen
    have cX := bX.cell 5 _ rfl
    gi_wp2
    exact ⟨(KeepsOthers.setCell _ _ _).from _, KeepC.put W 0 _, by rw [sumD_snoc]; exact bS1.set _, hB1.setCell (p := ⟨w.heap.size + 1, 0, none⟩) (by simp) _⟩
  case done =>
    rintro D ys W hD rfl ⟨bS1, hB1⟩ hK
    have cS := bS1.cell
    rw [sumD_range ps _ (by omega)] at cS
    gi_wp2
    refine ⟨by simp, .inl ⟨_, _, rfl, run_takeDeferred hK, ?_⟩⟩
    exact ⟨_, results_tmp rfl _ _ _, rfl, hB1.trans (belowK_b (w := w) (Nat.le_refl _) W D _ _ (by omega) hK rfl rfl)⟩
  case stop =>
    rintro D c pre W _ _ h _
    exact h.elim
end Go.Proofs.Ytcoldhdghcdaeaa
