/- Readings of fog signals: what both sides use. -/
import Derived.Test.YtbfhnfoaipaljaaDoorRdgN
namespace Go.Proofs.YtbfhnfoaipaljaaDoor
open Go.ChangeShapes Go.WideShapes Go.ChangeAt Go.RowKit Pm

/-- Four cells that may be written. -/
def Fz (w : World) (B : Nat) : Prop := B < w.heap.size ∧ w.frozen? ⟨B, 0, none⟩ = false ∧ w.frozen? ⟨B, 1, none⟩ = false ∧ w.frozen? ⟨B, 2, none⟩ = false ∧ w.frozen? ⟨B, 3, none⟩ = false
theorem frozen_belowF {w w' : World} {a : Addr} (h : w.frozen? a = false) (hl : a.block < w.heap.size) (hb : Below w.heap.size w w') : w'.frozen? a = false := by
  rw [hb.frozen hl]; exact h
theorem Fz.below {w w' : World} {B : Nat} (h : Fz w B) (hb : Below w.heap.size w w') : Fz w' B :=
  ⟨Nat.lt_of_lt_of_le h.1 hb.size, frozen_belowF h.2.1 h.1 hb, frozen_belowF h.2.2.1 h.1 hb, frozen_belowF h.2.2.2.1 h.1 hb, frozen_belowF h.2.2.2.2 h.1 hb⟩
def FogCellsI (w : World) (B : Nat) (k b p q : Int) : Prop := w.cell? ⟨B, 0, none⟩ = some (.int .i64 k) ∧ w.cell? ⟨B, 1, none⟩ = some (.int .i64 b) ∧ w.cell? ⟨B, 2, none⟩ = some (.int .i64 p) ∧ w.cell? ⟨B, 3, none⟩ = some (.int .i64 q)
theorem FogCellsI.below {w w' : World} {B : Nat} {k b p q : Int} (h : FogCellsI w B k b p q) (hb : Below w.heap.size w w') : FogCellsI w' B k b p q :=
  ⟨cell_below h.1 hb, cell_below h.2.1 hb, cell_below h.2.2.1 hb, cell_below h.2.2.2 hb⟩
theorem zero4 (w : World) (T : TypeId) : FogCellsI (w.alloc (.cells #[.int .i64 0, .int .i64 0, .int .i64 0, .int .i64 0] T)) w.heap.size 0 0 0 0 ∧ Fz (w.alloc (.cells #[.int .i64 0, .int .i64 0, .int .i64 0, .int .i64 0] T)) w.heap.size :=
  ⟨⟨by simp, by simp, by simp, by simp⟩, by simp, by go_simp, by go_simp, by go_simp, by go_simp⟩
def RdRet (r : F4 × Bool) (w : World) (e : Ending) (w' : World) : Prop :=
  e = .returned (.tuple #[.agg #[.int .i64 r.1.1, .int .i64 r.1.2.1, .int .i64 r.1.2.2.1, .int .i64 r.1.2.2.2], .bool r.2]) ∧ Below w.heap.size w w'
theorem keepBlk {W w' : World} {B : Nat} {G : Prop} (h : FogCellsI W B 0 0 0 0 ∧ Fz W B) (hb : Below W.heap.size W w') (k : FogCellsI w' B 0 0 0 0 ∧ Fz w' B → G) : G := k ⟨h.1.below hb, h.2.below hb⟩
theorem keepNew {W w' : World} {T : TypeId} {G : Prop} (hb : Below (W.alloc (.cells #[.int .i64 0, .int .i64 0, .int .i64 0, .int .i64 0] T)).heap.size (W.alloc (.cells #[.int .i64 0, .int .i64 0, .int .i64 0, .int .i64 0] T)) w') (k : FogCellsI w' W.heap.size 0 0 0 0 ∧ Fz w' W.heap.size → G) : G := keepBlk (zero4 W T) hb k
theorem keepNewD {W w' : World} {T : TypeId} {G : Prop} (hb : Below ((W.alloc (.cells #[.int .i64 0, .int .i64 0, .int .i64 0, .int .i64 0] T)).drew).heap.size ((W.alloc (.cells #[.int .i64 0, .int .i64 0, .int .i64 0, .int .i64 0] T)).drew) w') (k : FogCellsI w' W.heap.size 0 0 0 0 ∧ Fz w' W.heap.size → G) : G :=
  keepBlk (W := (W.alloc (.cells #[.int .i64 0, .int .i64 0, .int .i64 0, .int .i64 0] T)).drew) (B := W.heap.size) (zero4 W T) hb k
theorem fin_new {W0 w : World} {T : TypeId} {k p : Int} (hb : Below W0.heap.size W0 w) : ∃ Bf : Nat, Value.pointer (some ⟨w.heap.size, 0, none⟩) = .pointer (some ⟨Bf, 0, none⟩) ∧ W0.heap.size ≤ Bf ∧ FogCellsI (w.alloc (.cells #[.int .i64 k, .int .i64 1, .int .i64 p, .int .i64 0] T)) Bf k 1 p 0 ∧ Fz (w.alloc (.cells #[.int .i64 k, .int .i64 1, .int .i64 p, .int .i64 0] T)) Bf ∧ Below W0.heap.size W0 (w.alloc (.cells #[.int .i64 k, .int .i64 1, .int .i64 p, .int .i64 0] T)) :=
  ⟨_, rfl, hb.size, ⟨by simp, by simp, by simp, by simp⟩, ⟨by simp, by go_simp, by go_simp, by go_simp, by go_simp⟩, hb.alloc hb.size _⟩
theorem fin_set {W0 w : World} {B : Nat} {k p : Int} (h : FogCellsI w B 0 0 0 0 ∧ Fz w B) (hB : W0.heap.size ≤ B) (hb : Below W0.heap.size W0 w) : ∃ Bf : Nat, Value.pointer (some ⟨B, 0, none⟩) = .pointer (some ⟨Bf, 0, none⟩) ∧ W0.heap.size ≤ Bf ∧ FogCellsI ((((w.setCell ⟨B, 0, none⟩ (.int .i64 k)).setCell ⟨B, 1, none⟩ (.int .i64 1)).setCell ⟨B, 2, none⟩ (.int .i64 p)).setCell ⟨B, 3, none⟩ (.int .i64 0)) Bf k 1 p 0 ∧ Fz ((((w.setCell ⟨B, 0, none⟩ (.int .i64 k)).setCell ⟨B, 1, none⟩ (.int .i64 1)).setCell ⟨B, 2, none⟩ (.int .i64 p)).setCell ⟨B, 3, none⟩ (.int .i64 0)) Bf ∧ Below W0.heap.size W0 ((((w.setCell ⟨B, 0, none⟩ (.int .i64 k)).setCell ⟨B, 1, none⟩ (.int .i64 1)).setCell ⟨B, 2, none⟩ (.int .i64 p)).setCell ⟨B, 3, none⟩ (.int .i64 0)) := by
  obtain ⟨⟨d0, d1, d2, d3⟩, hlt, f0, f1, f2, f3⟩ := h
  refine ⟨_, rfl, hB, ⟨by go_cell, by go_cell, by go_cell, by go_cell⟩, ⟨by first | assumption | (simp; done) | (simp; omega), by go_simp, by go_simp, by go_simp, by go_simp⟩, ?_⟩
  iterate 4 (refine Below.setCell ?_ (by exact hB) _)
  exact hb
theorem cut_sizes {s a b c : ByteArray} (h : cutS 32 s = [a, b, c]) : a.size + b.size + c.size + 2 = s.size := by
  have := congrArg List.length (cut_join h)
  simp only [List.length_append, List.length_cons] at this
  have e : ∀ x : ByteArray, x.size = x.data.toList.length := fun _ => rfl
  rw [e, e, e, e]
  omega
theorem rcell_lt {w : World} {B i : Nat} {v : Value} (h : w.cell? ⟨B, i, none⟩ = some v) : B < w.heap.size := by
  rcases Nat.lt_or_ge B w.heap.size with h' | h'
  · exact h'
  · simp [World.cell?, Array.getElem?_eq_none h'] at h
end Go.Proofs.YtbfhnfoaipaljaaDoor
