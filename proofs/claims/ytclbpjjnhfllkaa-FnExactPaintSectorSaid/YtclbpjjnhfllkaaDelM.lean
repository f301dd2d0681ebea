/- Deleting sectors from a row of the call's own. -/
import Derived.Test.YtclbpjjnhfllkaaSimM
import Derived.Test.YtclbpjjnhfllkaaSctN
import Derived.Laws.IdiomCopy
import Derived.Lib.SliceRun
namespace Go.Proofs.Ytclbpjjnhfllkaa
open Go.ChangeShapes Go.WideShapes Go.ChangeAt Go.RowKit Pm

def flt (k : Bool) (ps : List Sec) : List Sec := ps.filter fun p => drk p.2.2 == k
theorem flt_le (k : Bool) (ps : List Sec) (j : Nat) : (flt k (ps.take j)).length ≤ j :=
  Nat.le_trans (List.length_filter_le _ _) (by rw [List.length_take]; omega)
theorem flt_step (k : Bool) (ps : List Sec) (j : Nat) (h : j < ps.length) : flt k (ps.take (j + 1)) = flt k (ps.take j) ++ if (drk (ps.getD j sec0).2.2 == k) = true then [ps.getD j sec0] else [] := by
  rw [sec_take ps j h]
  unfold flt
  rw [List.filter_append]
  congr 1
  generalize ps.getD j sec0 = p
  simp only [List.filter]
  cases e : (drk p.2.2 == k) <;> simp
/-- The row, once j sectors have been looked at. -/
def stp (k : Bool) (ps : List Sec) (j : Nat) : List Sec := flt k (ps.take j) ++ ps.drop (flt k (ps.take j)).length
theorem stp_len (k : Bool) (ps : List Sec) (j : Nat) (h : j ≤ ps.length) : (stp k ps j).length = ps.length := by
  have := flt_le k ps j
  unfold stp
  rw [List.length_append, List.length_drop]; omega
theorem stp_at (k : Bool) (ps : List Sec) (j : Nat) (_h : j < ps.length) : (stp k ps j).getD j sec0 = ps.getD j sec0 := by
  have := flt_le k ps j
  unfold stp
  simp only [List.getD_eq_getElem?_getD]
  rw [List.getElem?_append_right this, List.getElem?_drop]
  congr 2; omega
theorem stp_keep (k : Bool) (ps : List Sec) (j : Nat) (h : j < ps.length) (hk : (drk (ps.getD j sec0).2.2 == k) = true) :
    (stp k ps j).set (flt k (ps.take j)).length (ps.getD j sec0) = stp k ps (j + 1) ∧ (flt k (ps.take (j + 1))).length = (flt k (ps.take j)).length + 1 := by
  have hf := flt_le k ps j
  have hs := flt_step k ps j h
  rw [if_pos hk] at hs
  have hl : (flt k (ps.take (j + 1))).length = (flt k (ps.take j)).length + 1 := by rw [hs]; simp
  refine ⟨?_, hl⟩
  unfold stp
  rw [hl, hs, List.set_append_right _ _ (Nat.le_refl _), Nat.sub_self, List.append_assoc]
  congr 1
  rw [List.drop_eq_getElem_cons (by omega)]
  rfl
theorem stp_skip (k : Bool) (ps : List Sec) (j : Nat) (h : j < ps.length) (hk : (drk (ps.getD j sec0).2.2 == k) = false) : flt k (ps.take (j + 1)) = flt k (ps.take j) ∧ stp k ps (j + 1) = stp k ps j := by
  have hs := flt_step k ps j h
  rw [if_neg (by rw [hk]; simp), List.append_nil] at hs
  exact ⟨hs, by unfold stp; rw [hs]⟩
theorem flt_all (k : Bool) (ps : List Sec) (j : Nat) (hj : j ≤ ps.length) (h : ∀ i, i < j → (drk (ps.getD i sec0).2.2 == k) = true) : flt k (ps.take j) = ps.take j := by
  unfold flt
  rw [List.filter_eq_self]
  intro p hp
  obtain ⟨i, hi, rfl⟩ := List.getElem_of_mem hp
  have hi2 : i < j := by rw [List.length_take] at hi; omega
  have := h i hi2
  rw [sec_getD ps i (by omega)] at this
  rwa [List.getElem_take]
theorem stp_all (k : Bool) (ps : List Sec) (j : Nat) (hj : j ≤ ps.length) (h : ∀ i, i < j → (drk (ps.getD i sec0).2.2 == k) = true) : stp k ps j = ps := by
  unfold stp
  rw [flt_all k ps j hj h, List.length_take, Nat.min_eq_left hj, List.take_append_drop]
theorem stp_end (k : Bool) (ps : List Sec) : (stp k ps ps.length).take (flt k ps).length = flt k ps := by
  unfold stp
  rw [List.take_of_length_le (Nat.le_refl ps.length)]
  simp
/-- Is a sector deleted? -/
def dlB (k : Bool) (s : ByteArray) : Bool := !(drk s == k)

theorem secV_set : ∀ (ps : List Sec) (i : Nat) (p : Sec), i < ps.length → secV (ps.set i p) = (((secV ps).set (i * 3) (.int .i64 p.1)).set (i * 3 + 1) (.int .i64 p.2.1)).set (i * 3 + 2) (.string p.2.2)
  | q :: r, 0, p, _ => by simp [secV]
  | q :: r, i + 1, p, h => by
    have ih := secV_set r i p (by simpa using h)
    have e1 : secV (q :: r) = [.int .i64 q.1, .int .i64 q.2.1, .string q.2.2] ++ secV r := by simp [secV]
    have e2 : secV ((q :: r).set (i + 1) p) = [.int .i64 q.1, .int .i64 q.2.1, .string q.2.2] ++ secV (r.set i p) := by simp [secV]
    rw [e2, e1, ih]
    rw [List.set_append_right _ _ (by simp; omega), List.set_append_right _ _ (by simp; omega), List.set_append_right _ _ (by simp; omega)]
    simp only [List.length_cons, List.length_nil]
    rw [show (i + 1) * 3 - (0 + 1 + 1 + 1) = i * 3 by omega, show (i + 1) * 3 + 1 - (0 + 1 + 1 + 1) = i * 3 + 1 by omega, show (i + 1) * 3 + 2 - (0 + 1 + 1 + 1) = i * 3 + 2 by omega]
theorem OwnSec.put3 {w : World} {B g cap : Nat} {ps : List Sec} (h : OwnSec w B (.slice (some ⟨g, 0, Option.none⟩) ps.length cap) ps) (i : Nat) (hi : i < ps.length) (p : Sec) :
    OwnSec (((w.setCell ⟨g, i * 3, Option.none⟩ (.int .i64 p.1)).setCell ⟨g, i * 3 + 1, Option.none⟩ (.int .i64 p.2.1)).setCell ⟨g, i * 3 + 2, Option.none⟩ (.string p.2.2)) B (.slice (some ⟨g, 0, Option.none⟩) ps.length cap) (ps.set i p) := by
  have h1 := (((World.ownsRow.stored h (i * 3) (.int .i64 p.1)).1.stored (i * 3 + 1) (.int .i64 p.2.1)).1.stored (i * 3 + 2) (.string p.2.2)).1
  unfold OwnSec
  rw [secV_set ps i p hi, List.length_set]
  exact h1
theorem own_puts {B g n cap : Nat} : ∀ (vs : List Value) (o : Nat) (w : World) (xs : List Value), w.ownsRow B 26 3 (.slice (some ⟨g, 0, Option.none⟩) n cap) n xs →
    ∃ xs', (w.setCells g o vs).ownsRow B 26 3 (.slice (some ⟨g, 0, Option.none⟩) n cap) n xs' ∧ xs'.take o = xs.take o
  | [], _, _, xs, h => ⟨xs, h, rfl⟩
  | v :: r, o, w, xs, h => by
    obtain ⟨xs', h1, h2⟩ := own_puts r (o + 1) _ _ (World.ownsRow.stored h o v).1
    refine ⟨xs', h1, ?_⟩
    have := congrArg (List.take o) h2
    rw [List.take_take, List.take_take, Nat.min_eq_left (by omega)] at this
    rw [this, List.take_set_of_le (Nat.le_refl _)]
theorem own_cut {B g n cap i : Nat} {w : World} {xs : List Value} (h : w.ownsRow B 26 3 (.slice (some ⟨g, 0, Option.none⟩) n cap) n xs) (hi : i ≤ n) :
    w.ownsRow B 26 3 (.slice (some ⟨g, 0, Option.none⟩) i cap) i (xs.take (i * 3)) := by
  have hl := h.1
  rcases h.2 with ⟨h', _⟩ | ⟨g', cap', cur, h', hb, hg, hnc, hcm, hcs, htake⟩
  · cases h'
  · simp only [Value.slice.injEq, Option.some.injEq, Addr.mk.injEq, and_true, true_and] at h'
    obtain ⟨rfl, rfl⟩ := h'
    refine ⟨by rw [List.length_take]; omega, .inr ⟨g, cap, cur, rfl, hb, hg, by omega, hcm, hcs, ?_⟩⟩
    rw [← htake, List.take_take, Nat.min_eq_left (by omega)]
theorem clear_secs (w : World) (g i n cap B : Nat) (xs : List Value) (hin : i < n) (h : w.ownsRow B 26 3 (.slice (some ⟨g, 0, Option.none⟩) n cap) n xs) :
    ∃ vs, ∀ ty, (Builtin.clear_ #[32] ty #[.slice (some ⟨g, i * 3, Option.none⟩) (n - i) (cap - i)]).run Try.prog w = .ok (.tuple #[]) (w.setCells g (i * 3) vs) := by
  obtain ⟨vs, hvs⟩ : ∃ vs, vs = (Builtin.zeroCells (Value.agg #[.int .i64 0, .int .i64 0, .string ⟨#[]⟩]).cells (n - i)).toList := ⟨_, rfl⟩
  refine ⟨vs, fun ty => ?_⟩
  have hl : vs.length = (n - i) * 3 := by rw [hvs]; simp [Builtin.zeroCells, Value.cells]
  have hx := h.1
  have hst := run_storeCells_cells (P := Try.prog) g (i * 3) vs 0 w
    (fun j hj => by rw [World.ownsRow.cellAt h (i * 3 + 0 + j) (by omega), List.getElem?_eq_getElem (by omega)]; rfl)
    (fun j hj => World.ownsRow.frozenAt h _)
    (fun v hv => by
      rw [hvs] at hv
      simp only [Builtin.zeroCells, Value.cells, Array.toList_map, List.mem_map] at hv
      obtain ⟨a, _, rfl⟩ := hv
      have : a % 3 < 3 := Nat.mod_lt _ (by omega)
      show (#[Value.int .i64 0, .int .i64 0, .string ⟨#[]⟩][a % 3]!).oneCell' = true
      generalize a % 3 = q at this
      match q, this with
      | 0, _ => rfl
      | 1, _ => rfl
      | 2, _ => rfl)
  simp only [Nat.add_zero] at hst
  obtain ⟨m, hm⟩ : ∃ m, n - i = m + 1 := ⟨n - i - 1, by omega⟩
  rw [hm] at hvs ⊢
  simp [Builtin.clear_, run_underlying Try.underlying32, ← hvs, hst]
end Go.Proofs.Ytclbpjjnhfllkaa
