/- Cells kept through regions that make a variable and write it. -/
import Derived.Test.YthccbipjmheoaaaDoorOk
namespace Go.Proofs.YthccbipjmheoaaaDoor
open Go.ChangeShapes Go.WideShapes Go.ChangeAt Go.RowKit Pm

theorem new2 {W w1 : World} {x y : Value} (hb : Below (W.alloc (.cells #[x, y] 29)).heap.size (W.alloc (.cells #[x, y] 29)) w1) :
    w1.cell? ⟨W.heap.size, 0, none⟩ = some x ∧ w1.cell? ⟨W.heap.size, 1, none⟩ = some y ∧ w1.frozen? ⟨W.heap.size, 0, none⟩ = false ∧ w1.frozen? ⟨W.heap.size, 1, none⟩ = false ∧ W.heap.size < w1.heap.size := by
  refine ⟨cell_below (by simp) hb, cell_below (by simp) hb, ?_, ?_, ?_⟩
  · rw [hb.frozen (by simp)]; go_simp
  · rw [hb.frozen (by simp)]; go_simp
  · have := hb.size; simp at this; omega
theorem new2d {W w1 : World} {x y : Value} (hb : Below (W.alloc (.cells #[x, y] 29)).drew.heap.size (W.alloc (.cells #[x, y] 29)).drew w1) :
    w1.cell? ⟨W.heap.size, 0, none⟩ = some x ∧ w1.cell? ⟨W.heap.size, 1, none⟩ = some y ∧ w1.frozen? ⟨W.heap.size, 0, none⟩ = false ∧ w1.frozen? ⟨W.heap.size, 1, none⟩ = false ∧ W.heap.size < w1.heap.size :=
  new2 (W := W) (x := x) (y := y) ⟨hb.os, hb.tape, hb.output, hb.size, hb.block⟩
theorem carry2 {w w1 : World} {b : Nat} {x y : Value} (hb : Below w.heap.size w w1) (q0 : w.cell? ⟨b, 0, none⟩ = some x) (q1 : w.cell? ⟨b, 1, none⟩ = some y) (q2 : w.frozen? ⟨b, 0, none⟩ = false) (q3 : w.frozen? ⟨b, 1, none⟩ = false) (q4 : b < w.heap.size) :
    w1.cell? ⟨b, 0, none⟩ = some x ∧ w1.cell? ⟨b, 1, none⟩ = some y ∧ w1.frozen? ⟨b, 0, none⟩ = false ∧ w1.frozen? ⟨b, 1, none⟩ = false ∧ b < w1.heap.size :=
  ⟨cell_below q0 hb, cell_below q1 hb, by rw [hb.frozen q4]; exact q2, by rw [hb.frozen q4]; exact q3, Nat.lt_of_lt_of_le q4 hb.size⟩
theorem cell_put' {w : World} {a : Addr} {v x : Value} {b j : Nat} (n : a.block ≠ b) (h : w.cell? a = some v) : (w.setCell ⟨b, j, none⟩ x).cell? a = some v := by
  rw [World.cell?_setCell_other _ _ _ _ (by intro e; exact n (by rw [← e]))]; exact h
theorem cell_swap {w : World} {a : Addr} {v : Value} {o o' : Obj} (n : a.block ≠ w.heap.size) (h : (w.alloc o).cell? a = some v) : (w.alloc o').cell? a = some v := by
  rw [World.cell?_alloc_old _ _ _ n] at h ⊢; exact h
theorem below_swap {w0 w : World} {o o' : Obj} (n : w0.heap.size ≤ w.heap.size) (h : Below w0.heap.size w0 (w.alloc o)) : Below w0.heap.size w0 (w.alloc o') := by
  refine ⟨h.os, h.tape, h.output, ?_, ?_⟩
  · have := h.size; simp at this ⊢; omega
  · intro k hk
    have e := h.block k hk
    rw [Below.heap_alloc _ _ _ (by omega)] at e ⊢
    exact e
theorem keepA2 {w0 w : World} {a0 a1 : Addr} {v0 v1 : Value} {o : Obj} (h : w.cell? a0 = some v0 ∧ w.cell? a1 = some v1 ∧ Below w0.heap.size w0 w) : (w.alloc o).cell? a0 = some v0 ∧ (w.alloc o).cell? a1 = some v1 ∧ Below w0.heap.size w0 (w.alloc o) :=
  keep2 ((Below.refl _ _).alloc (Nat.le_refl _) _) h
theorem keepP2 {w0 w : World} {a0 a1 : Addr} {v0 v1 x y : Value} {b : Nat} (hB : w0.heap.size ≤ b) (n0 : a0.block ≠ b) (n1 : a1.block ≠ b) (h : w.cell? a0 = some v0 ∧ w.cell? a1 = some v1 ∧ Below w0.heap.size w0 w) : ((w.setCell ⟨b, 0, none⟩ x).setCell ⟨b, 1, none⟩ y).cell? a0 = some v0 ∧ ((w.setCell ⟨b, 0, none⟩ x).setCell ⟨b, 1, none⟩ y).cell? a1 = some v1 ∧ Below w0.heap.size w0 ((w.setCell ⟨b, 0, none⟩ x).setCell ⟨b, 1, none⟩ y) := by
  obtain ⟨h0, h1, hb⟩ := h
  exact ⟨cell_put' n0 (cell_put' n0 h0), cell_put' n1 (cell_put' n1 h1), (hb.setCell hB _).setCell hB _⟩
theorem keepX2 {w0 w : World} {a0 a1 : Addr} {v0 v1 : Value} {o o' : Obj} (hB : w0.heap.size ≤ w.heap.size) (n0 : a0.block ≠ w.heap.size) (n1 : a1.block ≠ w.heap.size) (h : (w.alloc o).cell? a0 = some v0 ∧ (w.alloc o).cell? a1 = some v1 ∧ Below w0.heap.size w0 (w.alloc o)) : (w.alloc o').cell? a0 = some v0 ∧ (w.alloc o').cell? a1 = some v1 ∧ Below w0.heap.size w0 (w.alloc o') := by
  obtain ⟨h0, h1, hb⟩ := h
  exact ⟨cell_swap n0 h0, cell_swap n1 h1, below_swap hB hb⟩
theorem keepA4 {w0 w : World} {a0 a1 a2 a3 : Addr} {v0 v1 v2 v3 : Value} {o : Obj} (h : w.cell? a0 = some v0 ∧ w.cell? a1 = some v1 ∧ w.cell? a2 = some v2 ∧ w.cell? a3 = some v3 ∧ Below w0.heap.size w0 w) : (w.alloc o).cell? a0 = some v0 ∧ (w.alloc o).cell? a1 = some v1 ∧ (w.alloc o).cell? a2 = some v2 ∧ (w.alloc o).cell? a3 = some v3 ∧ Below w0.heap.size w0 (w.alloc o) :=
  keep4 ((Below.refl _ _).alloc (Nat.le_refl _) _) h
theorem keepP4 {w0 w : World} {a0 a1 a2 a3 : Addr} {v0 v1 v2 v3 x y : Value} {b : Nat} (hB : w0.heap.size ≤ b) (n0 : a0.block ≠ b) (n1 : a1.block ≠ b) (n2 : a2.block ≠ b) (n3 : a3.block ≠ b) (h : w.cell? a0 = some v0 ∧ w.cell? a1 = some v1 ∧ w.cell? a2 = some v2 ∧ w.cell? a3 = some v3 ∧ Below w0.heap.size w0 w) : ((w.setCell ⟨b, 0, none⟩ x).setCell ⟨b, 1, none⟩ y).cell? a0 = some v0 ∧ ((w.setCell ⟨b, 0, none⟩ x).setCell ⟨b, 1, none⟩ y).cell? a1 = some v1 ∧ ((w.setCell ⟨b, 0, none⟩ x).setCell ⟨b, 1, none⟩ y).cell? a2 = some v2 ∧ ((w.setCell ⟨b, 0, none⟩ x).setCell ⟨b, 1, none⟩ y).cell? a3 = some v3 ∧ Below w0.heap.size w0 ((w.setCell ⟨b, 0, none⟩ x).setCell ⟨b, 1, none⟩ y) := by
  obtain ⟨h0, h1, h2, h3, hb⟩ := h
  exact ⟨cell_put' n0 (cell_put' n0 h0), cell_put' n1 (cell_put' n1 h1), cell_put' n2 (cell_put' n2 h2), cell_put' n3 (cell_put' n3 h3), (hb.setCell hB _).setCell hB _⟩
theorem keepX4 {w0 w : World} {a0 a1 a2 a3 : Addr} {v0 v1 v2 v3 : Value} {o o' : Obj} (hB : w0.heap.size ≤ w.heap.size) (n0 : a0.block ≠ w.heap.size) (n1 : a1.block ≠ w.heap.size) (n2 : a2.block ≠ w.heap.size) (n3 : a3.block ≠ w.heap.size) (h : (w.alloc o).cell? a0 = some v0 ∧ (w.alloc o).cell? a1 = some v1 ∧ (w.alloc o).cell? a2 = some v2 ∧ (w.alloc o).cell? a3 = some v3 ∧ Below w0.heap.size w0 (w.alloc o)) : (w.alloc o').cell? a0 = some v0 ∧ (w.alloc o').cell? a1 = some v1 ∧ (w.alloc o').cell? a2 = some v2 ∧ (w.alloc o').cell? a3 = some v3 ∧ Below w0.heap.size w0 (w.alloc o') := by
  obtain ⟨h0, h1, h2, h3, hb⟩ := h
  exact ⟨cell_swap n0 h0, cell_swap n1 h1, cell_swap n2 h2, cell_swap n3 h3, below_swap hB hb⟩
theorem keepA6 {w0 w : World} {a0 a1 a2 a3 a4 a5 : Addr} {v0 v1 v2 v3 v4 v5 : Value} {o : Obj} (h : w.cell? a0 = some v0 ∧ w.cell? a1 = some v1 ∧ w.cell? a2 = some v2 ∧ w.cell? a3 = some v3 ∧ w.cell? a4 = some v4 ∧ w.cell? a5 = some v5 ∧ Below w0.heap.size w0 w) : (w.alloc o).cell? a0 = some v0 ∧ (w.alloc o).cell? a1 = some v1 ∧ (w.alloc o).cell? a2 = some v2 ∧ (w.alloc o).cell? a3 = some v3 ∧ (w.alloc o).cell? a4 = some v4 ∧ (w.alloc o).cell? a5 = some v5 ∧ Below w0.heap.size w0 (w.alloc o) :=
  keep6 ((Below.refl _ _).alloc (Nat.le_refl _) _) h
theorem keepP6 {w0 w : World} {a0 a1 a2 a3 a4 a5 : Addr} {v0 v1 v2 v3 v4 v5 x y : Value} {b : Nat} (hB : w0.heap.size ≤ b) (n0 : a0.block ≠ b) (n1 : a1.block ≠ b) (n2 : a2.block ≠ b) (n3 : a3.block ≠ b) (n4 : a4.block ≠ b) (n5 : a5.block ≠ b) (h : w.cell? a0 = some v0 ∧ w.cell? a1 = some v1 ∧ w.cell? a2 = some v2 ∧ w.cell? a3 = some v3 ∧ w.cell? a4 = some v4 ∧ w.cell? a5 = some v5 ∧ Below w0.heap.size w0 w) : ((w.setCell ⟨b, 0, none⟩ x).setCell ⟨b, 1, none⟩ y).cell? a0 = some v0 ∧ ((w.setCell ⟨b, 0, none⟩ x).setCell ⟨b, 1, none⟩ y).cell? a1 = some v1 ∧ ((w.setCell ⟨b, 0, none⟩ x).setCell ⟨b, 1, none⟩ y).cell? a2 = some v2 ∧ ((w.setCell ⟨b, 0, none⟩ x).setCell ⟨b, 1, none⟩ y).cell? a3 = some v3 ∧ ((w.setCell ⟨b, 0, none⟩ x).setCell ⟨b, 1, none⟩ y).cell? a4 = some v4 ∧ ((w.setCell ⟨b, 0, none⟩ x).setCell ⟨b, 1, none⟩ y).cell? a5 = some v5 ∧ Below w0.heap.size w0 ((w.setCell ⟨b, 0, none⟩ x).setCell ⟨b, 1, none⟩ y) := by
  obtain ⟨h0, h1, h2, h3, h4, h5, hb⟩ := h
  exact ⟨cell_put' n0 (cell_put' n0 h0), cell_put' n1 (cell_put' n1 h1), cell_put' n2 (cell_put' n2 h2), cell_put' n3 (cell_put' n3 h3), cell_put' n4 (cell_put' n4 h4), cell_put' n5 (cell_put' n5 h5), (hb.setCell hB _).setCell hB _⟩
theorem keepX6 {w0 w : World} {a0 a1 a2 a3 a4 a5 : Addr} {v0 v1 v2 v3 v4 v5 : Value} {o o' : Obj} (hB : w0.heap.size ≤ w.heap.size) (n0 : a0.block ≠ w.heap.size) (n1 : a1.block ≠ w.heap.size) (n2 : a2.block ≠ w.heap.size) (n3 : a3.block ≠ w.heap.size) (n4 : a4.block ≠ w.heap.size) (n5 : a5.block ≠ w.heap.size) (h : (w.alloc o).cell? a0 = some v0 ∧ (w.alloc o).cell? a1 = some v1 ∧ (w.alloc o).cell? a2 = some v2 ∧ (w.alloc o).cell? a3 = some v3 ∧ (w.alloc o).cell? a4 = some v4 ∧ (w.alloc o).cell? a5 = some v5 ∧ Below w0.heap.size w0 (w.alloc o)) : (w.alloc o').cell? a0 = some v0 ∧ (w.alloc o').cell? a1 = some v1 ∧ (w.alloc o').cell? a2 = some v2 ∧ (w.alloc o').cell? a3 = some v3 ∧ (w.alloc o').cell? a4 = some v4 ∧ (w.alloc o').cell? a5 = some v5 ∧ Below w0.heap.size w0 (w.alloc o') := by
  obtain ⟨h0, h1, h2, h3, h4, h5, hb⟩ := h
  exact ⟨cell_swap n0 h0, cell_swap n1 h1, cell_swap n2 h2, cell_swap n3 h3, cell_swap n4 h4, cell_swap n5 h5, below_swap hB hb⟩
theorem join2 {w0 w : World} {a0 a1 a2 a3 : Addr} {v0 v1 v2 v3 : Value} (h : w.cell? a0 = some v0 ∧ w.cell? a1 = some v1 ∧ Below w0.heap.size w0 w) (k0 : w.cell? a2 = some v2) (k1 : w.cell? a3 = some v3) : w.cell? a0 = some v0 ∧ w.cell? a1 = some v1 ∧ w.cell? a2 = some v2 ∧ w.cell? a3 = some v3 ∧ Below w0.heap.size w0 w := by
  obtain ⟨h0, h1, hb⟩ := h
  exact ⟨h0, h1, k0, k1, hb⟩
theorem join4 {w0 w : World} {a0 a1 a2 a3 a4 a5 : Addr} {v0 v1 v2 v3 v4 v5 : Value} (h : w.cell? a0 = some v0 ∧ w.cell? a1 = some v1 ∧ w.cell? a2 = some v2 ∧ w.cell? a3 = some v3 ∧ Below w0.heap.size w0 w) (k0 : w.cell? a4 = some v4) (k1 : w.cell? a5 = some v5) : w.cell? a0 = some v0 ∧ w.cell? a1 = some v1 ∧ w.cell? a2 = some v2 ∧ w.cell? a3 = some v3 ∧ w.cell? a4 = some v4 ∧ w.cell? a5 = some v5 ∧ Below w0.heap.size w0 w := by
  obtain ⟨h0, h1, h2, h3, hb⟩ := h
  exact ⟨h0, h1, h2, h3, k0, k1, hb⟩

theorem eqpt_any (x y : Int) (w : World) :
    Calls Tryd.prog 29 #[.agg #[.int .i64 x, .int .i64 y], .agg #[.int .i64 x, .int .i64 y]] w fun e w' => e = .returned (.bool true) ∧ Below w.heap.size w w' := by
  go_enter Tryd.func29, Tryd.ntmps29
  go_wp2
  go_ret
  exact ⟨rfl, by go_grown⟩
end Go.Proofs.YthccbipjmheoaaaDoor
