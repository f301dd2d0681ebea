/- Slices of numbers in new blocks; the program's DivRound. -/
import Derived.Test.YthccbipjmheoaaaWithin
namespace Go.Proofs.Ythccbipjmheoaaa
open Go.ChangeShapes Go.WideShapes Go.ChangeAt Go.RowKit Pm

def divR (a b : Int) : Int := if b = 0 ∨ inB (-1000000000000) 1000000000000 [a, b] = false then 0 else dvr a b

theorem ints_new (w : World) (k : IntKind) (zs : List Int) (T : TypeId) (cap : Nat) (hm : zs.length ≤ 9223372036854775807) :
    IntsAre k (w.alloc (.cells (zs.map (Value.int k)).toArray T)) (.slice (some ⟨w.heap.size, 0, none⟩) zs.length cap) zs := by
  refine .inr ⟨_, _, _, rfl, hm, fun i hi => ?_⟩
  have h := (MapKept.heap_alloc w (.cells (zs.map (Value.int k)).toArray T)).1
  simp only [World.cell?, h]
  simp [hi]

theorem ints_two (w : World) (a b : Int) : IntsAre .i64 (w.alloc (.cells #[Value.int .i64 a, Value.int .i64 b] 2)) (.slice (some ⟨w.heap.size, 0, none⟩) 2 2) [a, b] :=
  ints_new w .i64 [a, b] 2 2 (by simp)
theorem ints_four (w : World) (a b c d : Int) : IntsAre .i64 (w.alloc (.cells #[Value.int .i64 a, Value.int .i64 b, Value.int .i64 c, Value.int .i64 d] 2)) (.slice (some ⟨w.heap.size, 0, none⟩) 4 4) [a, b, c, d] :=
  ints_new w .i64 [a, b, c, d] 2 4 (by simp)
theorem ints_one (w : World) (k : IntKind) (a : Int) (T : TypeId) : IntsAre k (w.alloc (.cells #[Value.int k a] T)) (.slice (some ⟨w.heap.size, 0, none⟩) 1 1) [a] :=
  ints_new w k [a] T 1 (by simp)

theorem inB_two (lo hi a b : Int) : inB lo hi [a, b] = (inB lo hi [a] && inB lo hi [b]) := by simp [inB]


/-- A cell that is there reads the same behind a call that only makes blocks of its own. -/
theorem cell_below {w w' : World} {a : Addr} {v : Value} (h : w.cell? a = some v) (hb : Below w.heap.size w w') : w'.cell? a = some v := by
  have hlt : a.block < w.heap.size := by
    rcases Nat.lt_or_ge a.block w.heap.size with h' | h'
    · exact h'
    · simp [World.cell?, Array.getElem?_eq_none h'] at h
  rw [hb.cell hlt]; exact h

theorem IntsAre.below {k : IntKind} {w w' : World} {sv : Value} {zs : List Int} (h : IntsAre k w sv zs) (hb : Below w.heap.size w w') : IntsAre k w' sv zs := by
  rcases h with h | ⟨b, off, cap, h1, h2, h3⟩
  · exact .inl h
  · exact .inr ⟨b, off, cap, h1, h2, fun i hi => cell_below (h3 i hi) hb⟩
end Go.Proofs.Ythccbipjmheoaaa
