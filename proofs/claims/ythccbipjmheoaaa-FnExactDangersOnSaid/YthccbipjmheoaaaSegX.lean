/- The segments of a line. The iterator of segments: its contract. -/
import Derived.Test.YthccbipjmheoaaaChnW
import Derived.Test.YthccbipjmheoaaaDist
import Derived.Test.YthccbipjmheoaaaDistS
import Derived.RangeFuncNested
import Derived.RangeFuncBound
import Derived.RangeFuncCalls
import Derived.RangeFuncLeaves
import Derived.RangeFuncBox
import Derived.Shelf.Abstract
import Derived.Shelf.RegionOpen
import Derived.WalkKit
import Derived.OwnWalkIn
import Derived.TacticsInMore
import Derived.LoopNIn
import Derived.LoopIn
import Derived.Deep.RegionWith
import Derived.Deep.RegionHeld3
import Derived.Sort.CutIn
namespace Go.Proofs.Ythccbipjmheoaaa
open Go.ChangeShapes Go.WideShapes Go.ChangeAt Go.RowKit Pm

theorem sqrt_exS (n : Nat) : ∃ r : Nat, r * r ≤ n ∧ n < (r + 1) * (r + 1) := by
  induction n with
  | zero => exact ⟨0, by omega, by omega⟩
  | succ n ih =>
    obtain ⟨r, h1, h2⟩ := ih
    by_cases h : n + 1 < (r + 1) * (r + 1)
    · exact ⟨r, by omega, h⟩
    · refine ⟨r + 1, by omega, ?_⟩
      have e : (r + 1 + 1) * (r + 1 + 1) = (r + 1) * (r + 1) + 2 * (r + 1) + 1 := by grind
      omega
theorem root_exS {n : Int} (h0 : 0 ≤ n) (h1 : n ≤ 9223372030926249000) : ∃ r, Root n r := by
  obtain ⟨N, rfl⟩ := Int.eq_ofNat_of_zero_le h0
  obtain ⟨r, h2, h3⟩ := sqrt_exS N
  have h4 : ((r * r : Nat) : Int) ≤ N := by omega
  have h5 : (N : Int) < (((r + 1) * (r + 1) : Nat) : Int) := by omega
  simp only [Int.natCast_mul, Int.natCast_add, Int.natCast_one] at h4 h5
  refine ⟨r, by omega, ?_, fun h => by omega, fun _ => ⟨h4, h5⟩⟩
  by_cases hr : (r : Int) ≤ 3037000499
  · exact hr
  · have : (3037000500 : Int) * 3037000500 ≤ r * r := Int.mul_le_mul (by omega) (by omega) (by omega) (by omega)
    omega
theorem dist_exS (ax ay bx cy : Int) : ∃ r, DistIs ax ay bx cy r := by
  by_cases hc : (okB (ax, ay) && okB (bx, cy)) = true
  · obtain ⟨ha, hb⟩ : okB (ax, ay) = true ∧ okB (bx, cy) = true := by simpa using hc
    obtain ⟨r, hr⟩ := root_exS (sqd_nn ax ay bx cy) (Int.le_trans (sqd_bd (vd_of ha) (vd_of hb)) (by decide))
    exact ⟨r, by unfold DistIs; rw [if_pos hc]; exact hr⟩
  · exact ⟨0, by unfold DistIs; rw [if_neg hc]⟩

/-- The distance of two points. -/
noncomputable def dstV (p q : Int × Int) : Int := Classical.choose (dist_exS p.1 p.2 q.1 q.2)
theorem dstV_is (p q : Int × Int) : DistIs p.1 p.2 q.1 q.2 (dstV p q) := Classical.choose_spec (dist_exS p.1 p.2 q.1 q.2)
theorem dstV_bd (p q : Int × Int) : 0 ≤ dstV p q ∧ dstV p q ≤ 3037000499 := by
  have h := dstV_is p q
  unfold DistIs at h
  split at h
  · exact ⟨h.1, h.2.1⟩
  · rw [h]; omega
theorem distance_v (p q : Int × Int) (w : World) :
    Calls Try.prog 113 #[.agg #[.int .i64 p.1, .int .i64 p.2], .agg #[.int .i64 q.1, .int .i64 q.2]] w fun e w' => e = .returned (.int .i64 (dstV p q)) ∧ Below w.heap.size w w' :=
  (distance_any p.1 p.2 q.1 q.2 w).mono fun _ _ ⟨r, hr, he, hb⟩ => ⟨by rw [he, hr.one (dstV_is p q)], hb⟩
/-- The length of a segment; where it begins. -/
noncomputable def dL (ps : Pts) (i : Nat) : Int := dstV (ps.getD i (0, 0)) (ps.getD (i + 1) (0, 0))
noncomputable def begV (ps : Pts) : Nat → Int
  | 0 => 0
  | i + 1 => begV ps i + dL ps i
theorem dL_bd (ps : Pts) (i : Nat) : 0 ≤ dL ps i ∧ dL ps i ≤ 3037000499 := dstV_bd _ _
theorem begV_bd (ps : Pts) : ∀ i, 0 ≤ begV ps i ∧ begV ps i ≤ 3037000499 * i
  | 0 => by simp [begV]
  | i + 1 => by
    have := begV_bd ps i
    have := dL_bd ps i
    simp only [begV, Int.natCast_add, Int.natCast_one]
    omega
/-- A segment as a value. -/
noncomputable def segV (ps : Pts) (i : Nat) : Value := .agg #[.int .i64 (ps.getD i (0, 0)).1, .int .i64 (ps.getD i (0, 0)).2, .int .i64 (ps.getD (i + 1) (0, 0)).1, .int .i64 (ps.getD (i + 1) (0, 0)).2, .int .i64 (begV ps i), .int .i64 (dL ps i)]
/-- What a round keeps: every row of cells but one. -/
def KeepC (A : Nat) (w w' : World) : Prop := w.heap.size ≤ w'.heap.size ∧ ∀ g, g ≠ A → (∃ cs T fr, w.heap[g]? = some (.cells cs T fr)) → w'.heap[g]? = w.heap[g]?
theorem KeepC.t {A : Nat} {a b c : World} (h : KeepC A a b) (k : KeepC A b c) : KeepC A a c :=
  ⟨Nat.le_trans h.1 k.1, fun g hg ⟨cs, T, fr, hc⟩ => by
    have h1 := h.2 g hg ⟨cs, T, fr, hc⟩
    rw [k.2 g hg ⟨cs, T, fr, h1.trans hc⟩, h1]⟩
theorem KeepC.b {A : Nat} (w : World) (l : Nat) (o o' : Obj) (h : w.heap[l]? = some o) (ho : o.isCells = false) : KeepC A w (w.putObj l o') := by
  have g := grownBy_putObj' w l o'
  refine ⟨g.size, fun k hk ⟨cs, T, fr, hc⟩ => ?_⟩
  have hne : k ≠ l := by
    rintro rfl
    rw [h] at hc
    cases hc
    simp [Obj.isCells] at ho
  exact World.putObj_heap_other (fun e => hne e)
theorem KeepC.below {A : Nat} {w w' : World} (h : Below w.heap.size w w') : KeepC A w w' :=
  ⟨h.size, fun g _ ⟨_, _, _, hc⟩ => h.block g (Array.getElem?_eq_some_iff.1 hc).1⟩
theorem KeepC.put {A : Nat} (w : World) (j : Nat) (v : Value) : KeepC A w (w.setCell ⟨A, j, none⟩ v) :=
  ⟨by simp [World.setCell], fun g hg _ => Below.heap_setCell _ _ _ _ (fun e => hg e)⟩
theorem KeepC.cell {A b j : Nat} {w w' : World} {v : Value} (h : KeepC A w w') (hb : b ≠ A) (hc : w.cell? ⟨b, j, none⟩ = some v) : w'.cell? ⟨b, j, none⟩ = some v := by
  have : ∃ cs T fr, w.heap[b]? = some (.cells cs T fr) := by
    unfold World.cell? at hc
    simp only at hc
    split at hc
    · rename_i cs T fr e; exact ⟨cs, T, fr, e⟩
    · cases hc
  have e := h.2 b hb this
  unfold World.cell? at hc ⊢
  simp only at hc ⊢
  rw [e]; exact hc
theorem below_grown {w w' : World} (h : Below w.heap.size w w') : w.grownBy w' none := ⟨h.os, h.tape, h.output, h.size, fun k hk _ => h.block k hk⟩
end Go.Proofs.Ythccbipjmheoaaa
namespace Go.Proofs.Ythccbipjmheoaaa
open Go.ChangeShapes Go.WideShapes Go.ChangeAt Go.RowKit Go.Shelf Pm
attribute [local go_sem] Oper.semAt_some

/-- s.end(). -/
theorem segend_any (a b c d x y : Int) (w : World) :
    Calls Try.prog 114 #[.agg #[.int .i64 a, .int .i64 b, .int .i64 c, .int .i64 d, .int .i64 x, .int .i64 y]] w fun e w' => e = .returned (.int .i64 (wrap64 (x + y))) ∧ Below w.heap.size w w' := by
  go_enter Try.func114, Try.ntmps114
  go_wp2
  go_ret
  exact ⟨rfl, by go_grown⟩
/-- ch.segments(): the receiver is boxed, the function value captures the box. -/
theorem segs_any (s : ByteArray) (a : Option Addr) (n c : Nat) (z : Int) (w : World) :
    Calls Try.prog 85 #[.agg #[.string s, .slice a n c, .int .i64 z]] w fun e w' => e = .returned (.func (.func 112) #[] #[.pointer (some ⟨w.heap.size, 0, none⟩)]) ∧ w' = w.alloc (.cells #[.string s, .slice a n c, .int .i64 z] 31) := by
  go_enter Try.func85, Try.ntmps85
  go_wp2
  go_ret
  exact ⟨rfl, rfl⟩
theorem gcell_swap {w : World} {a : Addr} {v : Value} {o o' : Obj} (n : a.block ≠ w.heap.size) (h : (w.alloc o).cell? a = some v) : (w.alloc o').cell? a = some v := by
  rw [World.cell?_alloc_old _ _ _ n] at h ⊢; exact h
theorem gbelow_swap {w0 w : World} {o o' : Obj} (n : w0.heap.size ≤ w.heap.size) (h : Below w0.heap.size w0 (w.alloc o)) : Below w0.heap.size w0 (w.alloc o') := by
  refine ⟨h.os, h.tape, h.output, ?_, ?_⟩
  · have := h.size; simp at this ⊢; omega
  · intro k hk
    have e := h.block k hk
    rw [Below.heap_alloc _ _ _ (by omega)] at e ⊢
    exact e
/-- What the region's loads hold. -/
abbrev H4 (w0 : World) (B0 B1 : Nat) (v0 v1 v2 v3 : Value) (w : World) : Prop :=
  w.cell? ⟨B0, 0, none⟩ = some v0 ∧ w.cell? ⟨B0, 1, none⟩ = some v1 ∧ w.cell? ⟨B1, 0, none⟩ = some v2 ∧ w.cell? ⟨B1, 1, none⟩ = some v3 ∧ Below w0.heap.size w0 w
section
variable {w0 w w1 : World} {B0 B1 B : Nat} {v0 v1 v2 v3 u : Value} {o o' : Obj}
theorem H4.below (hb : Below w.heap.size w w1) (h : H4 w0 B0 B1 v0 v1 v2 v3 w) : H4 w0 B0 B1 v0 v1 v2 v3 w1 :=
  ⟨cell_below h.1 hb, cell_below h.2.1 hb, cell_below h.2.2.1 hb, cell_below h.2.2.2.1 hb, Below.next h.2.2.2.2 hb⟩
theorem H4.drew (h : H4 w0 B0 B1 v0 v1 v2 v3 w) : H4 w0 B0 B1 v0 v1 v2 v3 w.drew := h.below (Below.refl _ _).drew
theorem H4.alloc (h : H4 w0 B0 B1 v0 v1 v2 v3 w) : H4 w0 B0 B1 v0 v1 v2 v3 (w.alloc o) := h.below ((Below.refl _ _).alloc (Nat.le_refl _) _)
theorem H4.swap (hB : w0.heap.size ≤ w.heap.size) (h0 : B0 < w0.heap.size) (h1 : B1 < w0.heap.size) (h : H4 w0 B0 B1 v0 v1 v2 v3 (w.alloc o)) : H4 w0 B0 B1 v0 v1 v2 v3 (w.alloc o') := by
  obtain ⟨c0, c1, c2, c3, hb⟩ := h
  exact ⟨gcell_swap (by simp only; omega) c0, gcell_swap (by simp only; omega) c1, gcell_swap (by simp only; omega) c2, gcell_swap (by simp only; omega) c3, gbelow_swap hB hb⟩
theorem H4.set (hB : w0.heap.size ≤ B) (h0 : B0 < w0.heap.size) (h1 : B1 < w0.heap.size) {j : Nat} (h : H4 w0 B0 B1 v0 v1 v2 v3 w) : H4 w0 B0 B1 v0 v1 v2 v3 (w.setCell ⟨B, j, none⟩ u) := by
  obtain ⟨c0, c1, c2, c3, hb⟩ := h
  have n0 : B ≠ B0 := by omega
  have n1 : B ≠ B1 := by omega
  exact ⟨by rw [World.cell?_setCell_far _ _ _ _ n0]; exact c0, by rw [World.cell?_setCell_far _ _ _ _ n0]; exact c1, by rw [World.cell?_setCell_far _ _ _ _ n1]; exact c2, by rw [World.cell?_setCell_far _ _ _ _ n1]; exact c3, hb.setCell hB u⟩
theorem H4.set6 (hB : w0.heap.size ≤ B) (h0 : B0 < w0.heap.size) (h1 : B1 < w0.heap.size) {x0 x1 x2 x3 x4 x5 : Value} (h : H4 w0 B0 B1 v0 v1 v2 v3 w) : H4 w0 B0 B1 v0 v1 v2 v3 ((((((w.setCell ⟨B, 0, none⟩ x0).setCell ⟨B, 1, none⟩ x1).setCell ⟨B, 2, none⟩ x2).setCell ⟨B, 3, none⟩ x3).setCell ⟨B, 4, none⟩ x4).setCell ⟨B, 5, none⟩ x5) :=
  .set hB h0 h1 (.set hB h0 h1 (.set hB h0 h1 (.set hB h0 h1 (.set hB h0 h1 (.set hB h0 h1 h)))))
end
/-- A segment in memory. -/
def SegAt (w : World) (T : Nat) (a b c d x y : Int) : Prop :=
  w.cell? ⟨T, 0, none⟩ = some (.int .i64 a) ∧ w.cell? ⟨T, 1, none⟩ = some (.int .i64 b) ∧ w.cell? ⟨T, 2, none⟩ = some (.int .i64 c) ∧ w.cell? ⟨T, 3, none⟩ = some (.int .i64 d) ∧ w.cell? ⟨T, 4, none⟩ = some (.int .i64 x) ∧ w.cell? ⟨T, 5, none⟩ = some (.int .i64 y)
theorem SegAt.new (w : World) (T : TypeId) (a b c d x y : Int) : SegAt (w.alloc (.cells #[.int .i64 a, .int .i64 b, .int .i64 c, .int .i64 d, .int .i64 x, .int .i64 y] T)) w.heap.size a b c d x y := by
  refine ⟨?_, ?_, ?_, ?_, ?_, ?_⟩ <;> simp
theorem SegAt.sets {w : World} {T : Nat} {p q r s t u : Int} (h : SegAt w T p q r s t u) (a b c d x y : Int) : SegAt ((((((w.setCell ⟨T, 0, none⟩ (.int .i64 a)).setCell ⟨T, 1, none⟩ (.int .i64 b)).setCell ⟨T, 2, none⟩ (.int .i64 c)).setCell ⟨T, 3, none⟩ (.int .i64 d)).setCell ⟨T, 4, none⟩ (.int .i64 x)).setCell ⟨T, 5, none⟩ (.int .i64 y)) T a b c d x y := by
  obtain ⟨h0, h1, h2, h3, h4, h5⟩ := h
  refine ⟨?_, ?_, ?_, ?_, ?_, ?_⟩
  all_goals first | go_cell | (simp [*]; done)
theorem SegAt.below {w w' : World} {T : Nat} {a b c d x y : Int} (h : SegAt w T a b c d x y) (hb : Below w.heap.size w w') : SegAt w' T a b c d x y :=
  ⟨cell_below h.1 hb, cell_below h.2.1 hb, cell_below h.2.2.1 hb, cell_below h.2.2.2.1 hb, cell_below h.2.2.2.2.1 hb, cell_below h.2.2.2.2.2 hb⟩
theorem seg_lt {w : World} {a : Addr} {u : Value} (h : w.cell? a = some u) : a.block < w.heap.size := World.block_lt_of_cell? w a h
theorem seg_fresh {w w2 : World} {T : TypeId} (hb : Below (w.alloc (.cells #[.int .i64 0, .int .i64 0, .int .i64 0, .int .i64 0, .int .i64 0, .int .i64 0] T)).drew.heap.size (w.alloc (.cells #[.int .i64 0, .int .i64 0, .int .i64 0, .int .i64 0, .int .i64 0, .int .i64 0] T)).drew w2) :
    SegAt w2 w.heap.size 0 0 0 0 0 0 ∧ w2.frozen? ⟨w.heap.size, 0, none⟩ = false ∧ w2.frozen? ⟨w.heap.size, 1, none⟩ = false ∧ w2.frozen? ⟨w.heap.size, 2, none⟩ = false ∧ w2.frozen? ⟨w.heap.size, 3, none⟩ = false ∧ w2.frozen? ⟨w.heap.size, 4, none⟩ = false ∧ w2.frozen? ⟨w.heap.size, 5, none⟩ = false := by
  refine ⟨(show SegAt (w.alloc _).drew _ _ _ _ _ _ _ from SegAt.new _ _ _ _ _ _ _ _).below hb, ?_, ?_, ?_, ?_, ?_, ?_⟩
  all_goals (rw [hb.frozen (by simp)]; simp)
set_option maxRecDepth 100000 in
set_option maxHeartbeats 4000000 in
theorem segs1_in (n : Nat) (hn : 1 ≤ n) (l Bn A bb off cap : Nat) (ps : Pts) (h2 : 2 ≤ ps.length) (h12 : ps.length ≤ 12) (hcap : ps.length ≤ cap) (hA : bb ≠ A) (hBA : Bn ≠ A) (s : ByteArray) (z : Int) (J Jx : List Nat → World → Prop)
    (W : World) (hAW : A < W.heap.size) (hJ : AbidesFrom W.heap.size J) (_hJx : AbidesFrom W.heap.size Jx)
    (hY : ∀ pre x W1, J pre W1 → pre.length < ps.length - 1 → YieldAt Fence.wide (n - 1) Try.prog l #[segV ps x] W1 fun e W' =>
      (e = .returned (.bool true) ∧ J (pre ++ [x]) W' ∧ KeepC A W1 W') ∨ (e = .returned (.bool false) ∧ Jx (pre ++ [x]) W'))
    (hBn : ChnAt W Bn s (.slice (some ⟨bb, off, none⟩) ps.length cap) z)
    (hc : ∀ i, i < ps.length → W.cell? ⟨bb, off + i * 2, none⟩ = some (.int .i64 (ps.getD i (0, 0)).1) ∧ W.cell? ⟨bb, off + i * 2 + 1, none⟩ = some (.int .i64 (ps.getD i (0, 0)).2)) (h0 : J [] W) :
    CallsIn Fence.wide n Try.prog 112 #[.func (.yield l) #[] #[], .pointer (some ⟨Bn, 0, none⟩)] W fun e W' => (∃ v, e = .returned v) ∧
      ((∃ ys, ys = List.range (ps.length - 1) ∧ J ys W') ∨ (∃ pre, (∃ k, k ≤ ps.length - 1 ∧ pre = List.range k) ∧ Jx pre W')) := by
  refine callsIn_of_wp Try.func112 rfl trivial ?_ rfl
  simp only [Try.ntmps112, List.size_toArray, List.length_cons, List.length_nil, Nat.reduceAdd, Nat.reduceSub, Array.replicate_succ, Array.replicate_zero, List.push_toArray, List.append_toArray, List.nil_append, List.cons_append]
  have HBN := Lib.hid hBn
  have HC := Lib.hid hc
  obtain ⟨N, hN⟩ : ∃ N, N = ps.length := ⟨_, rfl⟩
  have HN := Lib.hid hN
  rw [← hN] at hBn h2 h12 hY hcap
  obtain ⟨q0, q1, q2⟩ := hBn
  have hN1 : (1 : Int) ≤ (N : Int) := by omega
  have hcap1 : ¬ cap = 1 := by omega
  have hcap2 : ¬ cap < 1 := by omega
  have hcap3 : 1 ≤ cap := by omega
  rw [← hN]
  clear hc hN
  gi_wp2
  gi_loopw [3, 12] (fun b i wr => ∃ k : Nat, k ≤ N - 1 ∧ i = .int .i64 k ∧ b = .int .i64 (begV ps k) ∧ J (List.range k) wr ∧ KeepC A W wr) (fun _ i _ => N - (intOf i).toNat)
  case atStart => exact ⟨0, Nat.zero_le _, rfl, rfl, h0, KeepC.below (Below.refl _ _)⟩
  case round =>
    obtain ⟨k, hk, rfl, rfl, hJs, hKC⟩ := hrel
    by_cases hlt : k < N - 1
    · have hkn : (k : Int) < ((N - 1 : Nat) : Int) := by omega
      have c0 := hKC.cell hA (HC.out k (by have := HN.out; omega)).1
      have c1 := hKC.cell hA (HC.out k (by have := HN.out; omega)).2
      have d0 := hKC.cell hA (HC.out (k + 1) (by have := HN.out; omega)).1
      have d1 := hKC.cell hA (HC.out (k + 1) (by have := HN.out; omega)).2
      have q1' := hKC.cell hBA q1
      rw [show off + (k + 1) * 2 = off + 2 + k * 2 by omega] at d0 d1
      obtain ⟨px, hpx⟩ : ∃ px, px = (ps.getD k (0, 0)).1 := ⟨_, rfl⟩
      obtain ⟨py, hpy⟩ : ∃ py, py = (ps.getD k (0, 0)).2 := ⟨_, rfl⟩
      obtain ⟨qx, hqx⟩ : ∃ qx, qx = (ps.getD (k + 1) (0, 0)).1 := ⟨_, rfl⟩
      obtain ⟨qy, hqy⟩ : ∃ qy, qy = (ps.getD (k + 1) (0, 0)).2 := ⟨_, rfl⟩
      rw [← hpx] at c0
      rw [← hpy] at c1
      rw [← hqx] at d0
      rw [← hqy] at d1
      have e1 : ∀ o, (wr.alloc o).cell? ⟨Bn, 1, none⟩ = some (.slice (some ⟨bb, off, none⟩) N cap) := fun o => cell_below q1' ((Below.refl _ _).alloc (Nat.le_refl _) o)
      have e2 : ∀ o, (wr.alloc o).cell? ⟨bb, off + k * 2, none⟩ = some (.int .i64 px) := fun o => cell_below c0 ((Below.refl _ _).alloc (Nat.le_refl _) o)
      have e3 : ∀ o, (wr.alloc o).cell? ⟨bb, off + k * 2 + 1, none⟩ = some (.int .i64 py) := fun o => cell_below c1 ((Below.refl _ _).alloc (Nat.le_refl _) o)
      have hkN : (k : Int) < (N : Int) := by omega
      have HS := Lib.hid (show segV ps k = .agg #[.int .i64 px, .int .i64 py, .int .i64 qx, .int .i64 qy, .int .i64 (begV ps k), .int .i64 (dL ps k)] by unfold segV; rw [hpx, hpy, hqx, hqy])
      have HD := Lib.hid (fun w' => show Calls Try.prog 113 #[.agg #[.int .i64 px, .int .i64 py], .agg #[.int .i64 qx, .int .i64 qy]] w' fun e w'' => e = .returned (.int .i64 (dL ps k)) ∧ Below w'.heap.size w' w'' from by rw [hpx, hpy, hqx, hqy]; exact distance_v (ps.getD k (0, 0)) (ps.getD (k + 1) (0, 0)) w')
      have HBE := Lib.hid (show begV ps (k + 1) = begV ps k + dL ps k from rfl)
      have hb0 := begV_bd ps k
      have hd0 := dL_bd ps k
      clear hpx hpy hqx hqy
      generalize dL ps k = dk at *
      have HBD := Lib.hid (And.intro (And.intro hb0 hd0) h12)
      generalize begV ps k = bk at *
      gi_wp2
      obtain ⟨W1, hW1⟩ : ∃ W1, W1 = ((wr.alloc (.cells #[.int .i64 qx, .int .i64 qy] 33)).alloc (.cells #[.int .i64 px, .int .i64 py] 33)) := ⟨_, rfl⟩
      have hr : H4 W1 wr.heap.size (wr.heap.size + 1) (.int .i64 qx) (.int .i64 qy) (.int .i64 px) (.int .i64 py) W1 := by subst hW1; exact ⟨by go_cell, by go_cell, by go_cell, by go_cell, Below.refl _ _⟩
      have RW := Lib.hid (show Below wr.heap.size wr W1 by subst hW1; go_grown)
      have hsz : wr.heap.size + 1 < W1.heap.size := by subst hW1; simp
      rw [← hW1]
      have WS := Lib.hid hW1
      clear hW1
      obtain ⟨B0, hB0⟩ : ∃ B0, B0 = wr.heap.size := ⟨_, rfl⟩
      obtain ⟨B1, hB1⟩ : ∃ B1, B1 = wr.heap.size + 1 := ⟨_, rfl⟩
      rw [← hB1, ← hB0] at hr
      rw [← hB1, ← hB0]
      have l0 : B0 < W1.heap.size := by omega
      have l1 : B1 < W1.heap.size := by omega
      have HB01 := Lib.hid (And.intro hB0 hB1)
      clear hB0 hB1 hsz
      gi_cut [7] from 22 (fun t wx => ∃ T : Nat, t = .pointer (some ⟨T, 0, none⟩) ∧ W1.heap.size ≤ T ∧ Below W1.heap.size W1 wx ∧ SegAt wx T px py qx qy bk dk)
      case rest =>
        obtain ⟨T, rfl, hT, hbx, hsg⟩ := hcut
        have BX := Lib.hid (Below.next RW.out hbx)
        have hJc : J (List.range k) wc := hJ _ _ _ none hJs (below_grown BX.out) (fun r e => by cases e)
        have hY1 := hY (List.range k) k wc hJc (by simpa using hlt)
        rw [HS.out] at hY1
        have KC2 := Lib.hid (hKC.t (KeepC.below BX.out))
        have hTA : T ≠ A := by have h1 := hKC.1; have h2 := RW.out.size; omega
        obtain ⟨s0, s1, s2, s3, s4, s5⟩ := hsg
        obtain ⟨fn, tmps, assign, body, hy, hR⟩ := hY1
        have HY0 := Lib.hid hJ
        clear hJ hY
        gi_wp2
        refine hR.mono ?_
        rintro e W3 (⟨rfl, hJ3, hk3⟩ | ⟨rfl, hJx3⟩)
        · have t0 := hk3.cell hTA s0
          have t1 := hk3.cell hTA s1
          have t2 := hk3.cell hTA s2
          have t3 := hk3.cell hTA s3
          have t4 := hk3.cell hTA s4
          have t5 := hk3.cell hTA s5
          have hw : wrap64 (bk + dk) = bk + dk := IntWalk.wrap64_in _ (by have := HBD.out; omega)
          gi_wp2_with (refine ⟨trivial, ?_⟩; gi_at_call 114; refine (callsIn_wide.2 (segend_any _ _ _ _ _ _ _)).mono ?_; rintro e W4 ⟨rfl, hb4⟩)
          have hJ4 := HY0.out _ _ _ none hJ3 (below_grown hb4) (fun r e => by cases e)
          have hK4 := KC2.out.t (hk3.t (KeepC.below hb4))
          go_roundw
          case rel => exact ⟨k + 1, by omega, by go_num, by rw [HBE.out], by rw [List.range_succ]; exact hJ4, hK4⟩
          case measure => simp [intOf]; omega
        · gi_wp2
          refine bodyPost_ret (results_none rfl _ _ _) rfl ?_
          exact ⟨⟨_, rfl⟩, .inr ⟨List.range k ++ [k], ⟨k + 1, by omega, List.range_succ.symm⟩, hJx3⟩⟩
      refine wpIn_wide.2 ?_
      have HR := Lib.hid hr
      obtain ⟨x0, x1, x2, x3, xb⟩ := hr
      go_region_held3 (fun w' => w'.cell? ⟨B0, 0, none⟩ = some (.int .i64 qx) ∧ w'.cell? ⟨B0, 1, none⟩ = some (.int .i64 qy) ∧ w'.cell? ⟨B1, 0, none⟩ = some (.int .i64 px) ∧ w'.cell? ⟨B1, 1, none⟩ = some (.int .i64 py) ∧ Below W1.heap.size W1 w')
        (first | (with_reducible assumption) | (with_reducible exact H4.set6 (Nat.le_refl _) l0 l1 (by assumption)) | (with_reducible exact H4.below (by assumption) (by assumption)) | (with_reducible exact H4.drew HR.out) | (with_reducible exact HR.out) | (with_reducible exact H4.drew (H4.alloc HR.out)) | (with_reducible exact H4.alloc (by assumption)) | (with_reducible exact H4.set6 (Nat.le_refl _) l0 l1 (by assumption)) | (with_reducible exact H4.swap (by assumption) l0 l1 (by assumption)))
        (first
          | (go_at_call 113; (with_reducible refine (HD.out _).mono ?_); rintro e w2 ⟨rfl, hb⟩; (first | (have Y := seg_fresh hb; obtain ⟨⟨y0, y1, y2, y3, y4, y5⟩, z0, z1, z2, z3, z4, z5⟩ := Y) | skip); have hs2 := hb.size; have hs3 : W1.heap.size ≤ w2.heap.size := (by first | exact hs2 | (simp at hs2; omega)); clear hs2))
      all_goals
        rename_i hH
        have BB := hH.2.2.2.2
        clear hH
        go_wp2_with (fail)
        go_meet
        first
          | exact ⟨_, rfl, hs3, BB, SegAt.new _ _ _ _ _ _ _ _⟩
          | exact ⟨_, rfl, Nat.le_refl _, BB, SegAt.sets ⟨y0, y1, y2, y3, y4, y5⟩ _ _ _ _ _ _⟩
    · obtain rfl : k = N - 1 := by omega
      gi_wp2
      go_end0
      exact ⟨⟨_, rfl⟩, .inl ⟨_, rfl, hJs⟩⟩
end Go.Proofs.Ythccbipjmheoaaa
