/- Small words on what is returned, and on a call's new blocks. -/
import Derived.Test.YthccbipjmheoaaaDoorOk
namespace Go.Proofs.YthccbipjmheoaaaDoor
open Go.ChangeShapes Go.WideShapes Go.ChangeAt Go.RowKit Pm

theorem retB {a b : Bool} (h : a = b) : Ending.returned (.bool a) = .returned (.bool b) := by rw [h]
theorem retII {a b c d : Int} (h : a = b) (k : c = d) : Ending.returned (.tuple #[.int .i64 a, .int .i64 c]) = .returned (.tuple #[.int .i64 b, .int .i64 d]) := by rw [h, k]
theorem retIB {a b : Int} {c d : Bool} (h : a = b) (k : c = d) : Ending.returned (.tuple #[.int .i64 a, .bool c]) = .returned (.tuple #[.int .i64 b, .bool d]) := by rw [h, k]
theorem retS {s u : ByteArray} (h : s = u) : Ending.returned (.string s) = .returned (.string u) := by rw [h]
theorem frozen_kept {w w1 : World} {a : Addr} (hb : Below w.heap.size w w1) (h : w.frozen? a = false) (hl : a.block < w.heap.size) : w1.frozen? a = false := by
  rw [hb.frozen hl]; exact h
theorem lt_kept {w w1 : World} {b : Nat} (hb : Below w.heap.size w w1) (h : b < w.heap.size) : b < w1.heap.size := Nat.lt_of_lt_of_le h hb.size

/-! ### One cell, none, and old memory, kept through a region -/
theorem keep0 {w0 w w1 : World} (hb : Below w.heap.size w w1) (h : Below w0.heap.size w0 w) : Below w0.heap.size w0 w1 := Below.next h hb
theorem drew0 {w0 w : World} (h : Below w0.heap.size w0 w) : Below w0.heap.size w0 w.drew := h.drew
theorem keep1 {w0 w w1 : World} {a0 : Addr} {v0 : Value} (hb : Below w.heap.size w w1) (h : w.cell? a0 = some v0 ∧ Below w0.heap.size w0 w) : w1.cell? a0 = some v0 ∧ Below w0.heap.size w0 w1 :=
  ⟨cell_below h.1 hb, Below.next h.2 hb⟩
theorem drew1 {w0 w : World} {a0 : Addr} {v0 : Value} (h : w.cell? a0 = some v0 ∧ Below w0.heap.size w0 w) : w.drew.cell? a0 = some v0 ∧ Below w0.heap.size w0 w.drew := ⟨h.1, h.2.drew⟩
theorem keepB1 {w0 w : World} {a0 : Addr} {v0 : Value} (h : w.cell? a0 = some v0 ∧ Below w0.heap.size w0 w) : Below w0.heap.size w0 w := h.2
end Go.Proofs.YthccbipjmheoaaaDoor
