/- The table of kinds: the program's rows, the model's texts. -/
import Derived.Test.YthggoboljkdldaaDoorChrM
import Derived.Test.YthggoboljkdldaaDoorKit
import Derived.Test.YthggoboljkdldaaDoorRows
import Derived.LaidMore
import Derived.Lib.SmallJoins
namespace Go.Proofs.YthggoboljkdldaaDoor
open Go.ChangeShapes Go.WideShapes Go.ChangeAt Go.RowKit Go.Joins Pm

/-- The texts and the lengths of the kinds 0 to 8. -/
def kindRows : List (List UInt8 × Int × Int × Int) := [([], 0, 0, 0), ([70], 0, 0, 0), ([79, 99], 10, 10, 15), ([73, 115, 111], 0, 0, 0), ([70, 108], 5, 15, 20), ([76, 70, 108], 20, 20, 25), ([81], 5, 5, 20), ([86, 81], 2, 3, 10), ([77, 111], 5, 5, 30)]
def kindRow (r : Nat) : List UInt8 × Int × Int × Int := kindRows.getD r ([], 0, 0, 0)
def kindS (r : Nat) : ByteArray := ⟨(kindRow r).1.toArray⟩
/-- The program's table of kinds lies there. -/
def KindsAt (w : World) : Prop := ∀ r, r < 9 → w.cell? ⟨0, r * 4, none⟩ = some (.string (kindS r)) ∧ w.cell? ⟨0, r * 4 + 1, none⟩ = some (.int .i64 (kindRow r).2.1) ∧
  w.cell? ⟨0, r * 4 + 2, none⟩ = some (.int .i64 (kindRow r).2.2.1) ∧ w.cell? ⟨0, r * 4 + 3, none⟩ = some (.int .i64 (kindRow r).2.2.2)
theorem KindsAt.below {w w' : World} (h : KindsAt w) (hb : Below w.heap.size w w') : KindsAt w' := fun r hr =>
  ⟨cell_below (h r hr).1 hb, cell_below (h r hr).2.1 hb, cell_below (h r hr).2.2.1 hb, cell_below (h r hr).2.2.2 hb⟩
theorem pick_cell {l : List Value} {r i : Nat} {v : Value} (h : (((l.drop (r * 4)).take 4).drop i).take 1 = [v]) : l[r * 4 + i]? = some v := by
  have h0 : ((((l.drop (r * 4)).take 4).drop i).take 1)[0]? = some v := by rw [h]; rfl
  rw [List.getElem?_take, if_pos (by omega), List.getElem?_drop, List.getElem?_take, Nat.add_zero] at h0
  split at h0
  · rwa [List.getElem?_drop] at h0
  · cases h0
theorem kinds_of {W : World} {r : List (String × DataW Unit)} (h : laidMet Tryd.prog (("loop.example/g00953/impl.kindTable", Rows.laid_loop_example_g00953_impl_kindTable) :: r) W) : KindsAt W := by
  obtain ⟨ps, ⟨g, t, cs, fuel, p, q, hg, ht, hv, hd, _, _⟩, _, _⟩ := h
  obtain rfl := Option.some.inj ((show Tryd.prog.globalNamed "loop.example/g00953/impl.kindTable" = some 0 by kernel_rfl).symm.trans hg)
  obtain rfl := Option.some.inj ((show (Tryd.prog.globals[0]?).map (·.type) = some 78 by kernel_rfl).symm.trans ht)
  obtain ⟨xs, m, _, ex, _, hl, hel⟩ := DataW.trod_array Tryd.underlying78 hd
  have c4 : Tryd.prog.cellsOf 51 = 4 := by kernel_rfl
  have c1 : Tryd.prog.cellsOf 9 = 1 := by kernel_rfl
  have ci : Tryd.prog.cellsOf 2 = 1 := by kernel_rfl
  intro r hr
  have hE := hel r hr
  rw [c4, List.getElem?_eq_getElem (by omega)] at hE
  obtain ⟨y0, y1, y2, y3, n, e4, _, t0, t1, t2, t3⟩ := trod_struct4 Tryd.underlying51 hE
  simp only [c1, ci] at t0 t1 t2 t3
  obtain ⟨s, s1, s2, _⟩ := DataW.trod_string Tryd.underlying9 t0
  obtain ⟨f, f1, f2, _⟩ := DataW.trod_int Tryd.underlying2 t1
  obtain ⟨q, q1, q2, _⟩ := DataW.trod_int Tryd.underlying2 t2
  obtain ⟨z, z1, z2, _⟩ := DataW.trod_int Tryd.underlying2 t3
  have e3 : (xs.map (·.1)) = (kindRows.map fun k => (.agg [.lit (.string k.1), .lit (.int .i64 k.2.1), .lit (.int .i64 k.2.2.1), .lit (.int .i64 k.2.2.2)] : DataW Unit)) := (DataW.agg.inj (Prod.mk.inj ex).1).symm
  have hlen : kindRows.length = 9 := rfl
  have hxl : xs.length = 9 := by have := congrArg List.length e3; simpa [hlen] using this
  have e5 : (xs.map (·.1))[r]? = (kindRows.map fun k => (.agg [.lit (.string k.1), .lit (.int .i64 k.2.1), .lit (.int .i64 k.2.2.1), .lit (.int .i64 k.2.2.2)] : DataW Unit))[r]? := by rw [e3]
  rw [List.getElem?_map, List.getElem?_map, List.getElem?_eq_getElem (by omega : r < xs.length), List.getElem?_eq_getElem (by omega : r < kindRows.length), e4] at e5
  have hk : kindRow r = kindRows[r]'(by omega) := by unfold kindRow; rw [List.getD, List.getElem?_eq_getElem (by omega : r < kindRows.length)]; rfl
  rw [← hk, s2, f2, q2, z2] at e5
  simp only [Option.map_some, Option.some.injEq, DataW.agg.injEq, List.cons.injEq, DataW.lit.injEq, Lit.string.injEq, Lit.int.injEq, true_and, and_true] at e5
  obtain ⟨a0, a1, a2, a3⟩ := e5
  have hs : s = kindS r := by
    refine WideShapes.bytes_inj ?_
    rw [a0]; rfl
  have pin : ∀ (i : Nat) (v : Value), cs.toList[r * 4 + i]? = some v → W.cell? ⟨0, r * 4 + i, none⟩ = some v := by
    intro i v h
    rw [World.var?_cell hg hv (r * 4 + i)]
    simpa using h
  subst a1 a2 a3
  rw [hs] at s1
  exact ⟨pin 0 _ (pick_cell s1), pin 1 _ (pick_cell f1), pin 2 _ (pick_cell q1), pin 3 _ (pick_cell z1)⟩
end Go.Proofs.YthggoboljkdldaaDoor
