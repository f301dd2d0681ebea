/- What a region keeps that ends in a store into a row of texts. -/
import Derived.Test.YtclbpjjnhfllkaaCir
import Derived.Test.YtclbpjjnhfllkaaKit
namespace Go.Proofs.Ytclbpjjnhfllkaa
open Go.ChangeShapes Go.WideShapes Go.ChangeAt Go.RowKit Pm

theorem lt_of_cellq {w : World} {a : Addr} {v : Value} (h : w.cell? a = some v) : a.block < w.heap.size := by
  rcases Nat.lt_or_ge a.block w.heap.size with h' | h'
  · exact h'
  · simp [World.cell?, Array.getElem?_eq_none h'] at h
/-- What a cell holds. -/
def outq (g i : Nat) (w : World) : Value := (w.cell? ⟨g, i, none⟩).getD undef
theorem outq_is {w : World} {g i : Nat} {z : Value} (h : w.cell? ⟨g, i, none⟩ = some z) : w.cell? ⟨g, i, none⟩ = some (outq g i w) := by unfold outq; rw [h]; rfl
/-- What a region keeps: a sector's cells, a row's cell that it writes, the row but for that cell. -/
def KeepQ (B g n i : Nat) (L : List ByteArray) (W0 w : World) : Prop := (∃ L', OwnC w B g n n L' ∧ ∀ j, j ≠ i → L'.getD j e0 = L.getD j e0) ∧ Below W0.heap.size W0 w
theorem keepQ {W0 w w1 : World} {a0 a1 a2 : Addr} {v0 v1 v2 : Value} {B g n i : Nat} {L : List ByteArray} (hb : Below w.heap.size w w1)
    (h : w.cell? a0 = some v0 ∧ w.cell? a1 = some v1 ∧ w.cell? a2 = some v2 ∧ w.cell? ⟨g, i, none⟩ = some (outq g i w) ∧ w.frozen? ⟨g, i, none⟩ = false ∧ KeepQ B g n i L W0 w) :
    w1.cell? a0 = some v0 ∧ w1.cell? a1 = some v1 ∧ w1.cell? a2 = some v2 ∧ w1.cell? ⟨g, i, none⟩ = some (outq g i w1) ∧ w1.frozen? ⟨g, i, none⟩ = false ∧ KeepQ B g n i L W0 w1 := by
  obtain ⟨h0, h1, h2, h3, h4, ⟨L', h5, h6⟩, h7⟩ := h
  exact ⟨cell_below h0 hb, cell_below h1 hb, cell_below h2 hb, outq_is (cell_below h3 hb), frozen_kept hb h4 (lt_of_cellq h3), ⟨L', h5.below hb, h6⟩, Below.next h7 hb⟩
theorem drewQ {W0 w : World} {a0 a1 a2 : Addr} {v0 v1 v2 : Value} {B g n i : Nat} {L : List ByteArray}
    (h : w.cell? a0 = some v0 ∧ w.cell? a1 = some v1 ∧ w.cell? a2 = some v2 ∧ w.cell? ⟨g, i, none⟩ = some (outq g i w) ∧ w.frozen? ⟨g, i, none⟩ = false ∧ KeepQ B g n i L W0 w) :
    w.drew.cell? a0 = some v0 ∧ w.drew.cell? a1 = some v1 ∧ w.drew.cell? a2 = some v2 ∧ w.drew.cell? ⟨g, i, none⟩ = some (outq g i w.drew) ∧ w.drew.frozen? ⟨g, i, none⟩ = false ∧ KeepQ B g n i L W0 w.drew :=
  keepQ ((Below.refl _ _).drew) h
theorem putQ {W0 w : World} {a0 a1 a2 : Addr} {v0 v1 v2 : Value} {g n i : Nat} {L : List ByteArray} {s : ByteArray} (n0 : a0.block ≠ g) (n1 : a1.block ≠ g) (n2 : a2.block ≠ g)
    (h : w.cell? a0 = some v0 ∧ w.cell? a1 = some v1 ∧ w.cell? a2 = some v2 ∧ w.cell? ⟨g, i, none⟩ = some (outq g i w) ∧ w.frozen? ⟨g, i, none⟩ = false ∧ KeepQ W0.heap.size g n i L W0 w) :
    (w.setCell ⟨g, i, none⟩ (.string s)).cell? a0 = some v0 ∧ (w.setCell ⟨g, i, none⟩ (.string s)).cell? a1 = some v1 ∧ (w.setCell ⟨g, i, none⟩ (.string s)).cell? a2 = some v2 ∧ (w.setCell ⟨g, i, none⟩ (.string s)).cell? ⟨g, i, none⟩ = some (outq g i (w.setCell ⟨g, i, none⟩ (.string s))) ∧ (w.setCell ⟨g, i, none⟩ (.string s)).frozen? ⟨g, i, none⟩ = false ∧ KeepQ W0.heap.size g n i L W0 (w.setCell ⟨g, i, none⟩ (.string s)) := by
  obtain ⟨h0, h1, h2, h3, h4, ⟨L', h5, h6⟩, h7⟩ := h
  have ho := h5.put i s
  have hi : i < n ∨ n ≤ i := by omega
  refine ⟨cell_puts n0 h0, cell_puts n1 h1, cell_puts n2 h2, ?_, ho.frozen i, ⟨L'.set i s, ho, fun j hj => ?_⟩, h7.setCell h5.ge _⟩
  · have e : (w.setCell ⟨g, i, none⟩ (.string s)).cell? ⟨g, i, none⟩ = some (.string s) := World.cell?_setCell_same _ _ _ h3
    exact outq_is e
  · rw [← h6 j hj]
    simp [Ne.symm hj]
theorem KeepQ.put {B g n i : Nat} {L : List ByteArray} {W0 w : World} {s : ByteArray} (h : KeepQ B g n i L W0 w) (hL : L.length = n) (hi : i < n) (hc : w.cell? ⟨g, i, none⟩ = some (.string s)) : OwnC w B g n n (L.set i s) := by
  obtain ⟨⟨L', ho, hk⟩, _⟩ := h
  have hl := ho.len
  have h1 := ho.cell i hi
  rw [hc] at h1
  have hs : L'.getD i e0 = s := by simpa using h1.symm
  have e : L' = L.set i s := by
    apply List.ext_getElem
    · rw [hl, List.length_set, hL]
    · intro j h1 h2
      rw [List.getElem_set]
      by_cases e : i = j
      · subst e
        rw [if_pos rfl, ← hs]
        simp [h1]
      · rw [if_neg e]
        have h4 := hk j (fun e2 => e e2.symm)
        have h5 : j < L.length := by rw [hL, ← hl]; exact h1
        simpa [h1, h5] using h4
  rw [← e]; exact ho
end Go.Proofs.Ytclbpjjnhfllkaa
