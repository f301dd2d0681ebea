/- The length of a channel: the program's. -/
import Derived.Test.YthccbipjmheoaaaSegX
namespace Go.Proofs.Ythccbipjmheoaaa
open Go.ChangeShapes Go.WideShapes Go.ChangeAt Go.RowKit Go.Shelf Pm
attribute [local go_sem] Oper.semAt_some

/-- The iterator's value, for whoever walks it. -/
theorem segs_stops (n : Nat) (hn : 1 ≤ n) (Bn A bb off cap : Nat) (ps : Pts) (h2 : 2 ≤ ps.length) (h12 : ps.length ≤ 12) (hcap : ps.length ≤ cap) (hA : bb ≠ A) (hBA : Bn ≠ A) (s : ByteArray) (z : Int) (w : World) (hAw : A < w.heap.size)
    (hBn : ChnAt w Bn s (.slice (some ⟨bb, off, none⟩) ps.length cap) z)
    (hc : ∀ i, i < ps.length → w.cell? ⟨bb, off + i * 2, none⟩ = some (.int .i64 (ps.getD i (0, 0)).1) ∧ w.cell? ⟨bb, off + i * 2 + 1, none⟩ = some (.int .i64 (ps.getD i (0, 0)).2)) :
    SeqStopsK Fence.wide n Try.prog 112 #[.pointer (some ⟨Bn, 0, none⟩)] (fun i : Nat => #[segV ps i]) (KeepC A) (fun ys => ys = List.range (ps.length - 1)) (fun pre => ∃ k, k ≤ ps.length - 1 ∧ pre = List.range k) (ps.length - 1) w :=
  fun l J Jx W hW hJ hJx hY h0 => segs1_in n hn l Bn A bb off cap ps h2 h12 hcap hA hBA s z J Jx W (Nat.lt_of_lt_of_le hAw hW.size) hJ hJx hY (hBn.below hW) (fun i hi => ⟨cell_below (hc i hi).1 hW, cell_below (hc i hi).2 hW⟩) h0

/-- A block of cells. -/
def BlkAt (W : World) (B : Nat) (cs : Array Value) (t : TypeId) : Prop := W.heap[B]? = some (.cells cs t (0, 0))
theorem BlkAt.lt {W : World} {B : Nat} {cs : Array Value} {t : TypeId} (h : BlkAt W B cs t) : B < W.heap.size := (Array.getElem?_eq_some_iff.1 h).1
theorem BlkAt.new (W : World) (cs : Array Value) (t : TypeId) : BlkAt (W.alloc (.cells cs t)) W.heap.size cs t := World.alloc_heap_new W _
theorem BlkAt.own {β : Type} (B : Nat) (t : TypeId) (f : β → Array Value) : Own (fun s W => BlkAt W B (f s) t) := fun s X Y row hs hg hrow =>
  (hg.block B hs.lt (fun e' => by obtain ⟨o, ho, hc⟩ := hrow B e'.symm; rw [show X.heap[B]? = _ from hs] at ho; cases ho; cases hc)).trans hs
theorem BlkAt.cell {W : World} {B : Nat} {cs : Array Value} {t : TypeId} (h : BlkAt W B cs t) (j : Nat) (v : Value) (hv : cs[j]? = some v) : W.cell? ⟨B, j, none⟩ = some v := by
  unfold BlkAt at h
  simp [World.cell?, h, hv]
theorem Own.ofFrom {β : Type} {I : β → World → Prop} (h : Own I) (B : Nat) : OwnFrom B I := Own.from h B

/-- The sum of what has come. -/
noncomputable def sumD (ps : Pts) (pre : List Nat) : Int := pre.foldl (fun s i => wrap64 (s + dL ps i)) 0
theorem sumD_snoc (ps : Pts) (pre : List Nat) (i : Nat) : sumD ps (pre ++ [i]) = wrap64 (sumD ps pre + dL ps i) := by simp [sumD]
theorem sumD_range (ps : Pts) : ∀ k, k ≤ 12 → sumD ps (List.range k) = begV ps k
  | 0, _ => rfl
  | k + 1, h => by
    rw [List.range_succ, sumD_snoc, sumD_range ps k (by omega)]
    have := begV_bd ps k
    have := dL_bd ps k
    exact IntWalk.wrap64_in _ (by omega)

end Go.Proofs.Ythccbipjmheoaaa
