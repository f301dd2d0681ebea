/- Points between two ends, of the program: where there is one. -/
import Derived.Test.YtcoldhdghcdaeaaBtw
namespace Go.Proofs.Ytcoldhdghcdaeaa
open Go.ChangeShapes Go.WideShapes Go.ChangeAt Go.RowKit Pm

theorem cell_put {w : World} {a : Addr} {v x : Value} {b j : Nat} (n : a.block ≠ b) (h : w.cell? a = some v) : (w.setCell ⟨b, j, none⟩ x).cell? a = some v := by
  rw [World.cell?_setCell_other _ _ _ _ (by intro e; exact n (by rw [← e]))]; exact h
theorem putk4 {w : World} {a0 a1 a2 a3 : Addr} {v0 v1 v2 v3 x y : Value} {b : Nat} (n0 : a0.block ≠ b) (n1 : a1.block ≠ b) (n2 : a2.block ≠ b) (n3 : a3.block ≠ b)
    (h : w.cell? a0 = some v0 ∧ w.cell? a1 = some v1 ∧ w.cell? a2 = some v2 ∧ w.cell? a3 = some v3) :
    ((w.setCell ⟨b, 0, none⟩ x).setCell ⟨b, 1, none⟩ y).cell? a0 = some v0 ∧ ((w.setCell ⟨b, 0, none⟩ x).setCell ⟨b, 1, none⟩ y).cell? a1 = some v1 ∧ ((w.setCell ⟨b, 0, none⟩ x).setCell ⟨b, 1, none⟩ y).cell? a2 = some v2 ∧ ((w.setCell ⟨b, 0, none⟩ x).setCell ⟨b, 1, none⟩ y).cell? a3 = some v3 := by
  obtain ⟨h0, h1, h2, h3⟩ := h
  exact ⟨cell_put n0 (cell_put n0 h0), cell_put n1 (cell_put n1 h1), cell_put n2 (cell_put n2 h2), cell_put n3 (cell_put n3 h3)⟩
theorem keepa4 {w : World} {a0 a1 a2 a3 : Addr} {v0 v1 v2 v3 : Value} {o : Obj}
    (h : w.cell? a0 = some v0 ∧ w.cell? a1 = some v1 ∧ w.cell? a2 = some v2 ∧ w.cell? a3 = some v3) :
    (w.alloc o).cell? a0 = some v0 ∧ (w.alloc o).cell? a1 = some v1 ∧ (w.alloc o).cell? a2 = some v2 ∧ (w.alloc o).cell? a3 = some v3 := by
  obtain ⟨h0, h1, h2, h3⟩ := h
  have hb : Below w.heap.size w (w.alloc o) := (Below.refl _ _).alloc (Nat.le_refl _) _
  exact ⟨cell_below h0 hb, cell_below h1 hb, cell_below h2 hb, cell_below h3 hb⟩

end Go.Proofs.Ytcoldhdghcdaeaa
