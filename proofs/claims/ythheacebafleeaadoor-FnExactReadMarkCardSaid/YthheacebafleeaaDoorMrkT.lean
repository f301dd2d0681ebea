/- The program's table of marks, as a row's list gives it. -/
import Derived.Test.YthheacebafleeaaDoorMrkM
import Derived.Test.YthheacebafleeaaDoorKit
import Derived.Test.YthheacebafleeaaDoorRows
import Derived.LaidMore
import Derived.LaidSub
import Derived.Lib.SmallJoins
import Derived.Stop.LaidTwo
namespace Go.Proofs.YthheacebafleeaaDoor
open Go.ChangeShapes Go.WideShapes Go.ChangeAt Go.RowKit Go.Joins Pm

theorem pick_cell7 {l : List Value} {r i : Nat} {v : Value} (h : (((l.drop (r * 7)).take 7).drop i).take 1 = [v]) : l[r * 7 + i]? = some v := by
  have h0 : ((((l.drop (r * 7)).take 7).drop i).take 1)[0]? = some v := by rw [h]; rfl
  rw [List.getElem?_take, if_pos (by omega), List.getElem?_drop, List.getElem?_take, Nat.add_zero] at h0
  split at h0
  · rwa [List.getElem?_drop] at h0
  · cases h0
theorem trod_struct7 {H : Type} {enc : TypeId × Value → H} {P : Program} {w : World} {base : Nat} {spare : Nat → Bool} {held : Bool} {t : TypeId} {f0 f1 f2 f3 f4 f5 f6 : Field} {fuel : Nat} {cs : List Value} {x : DataW H × List MemPlace} (ht : P.underlying t = some (.struct #[f0, f1, f2, f3, f4, f5, f6])) (h : DataW.trod enc P w base spare held fuel t cs = some x) :
    ∃ (ys : List (DataW H × List MemPlace)) (n : Nat), x.1 = .agg (ys.map (·.1)) ∧ ys.length = 7 ∧ DataW.trod enc P w base spare held n f0.type ((cs.drop f0.offset).take (P.cellsOf f0.type)) = ys[0]? ∧ DataW.trod enc P w base spare held n f1.type ((cs.drop f1.offset).take (P.cellsOf f1.type)) = ys[1]? ∧ DataW.trod enc P w base spare held n f2.type ((cs.drop f2.offset).take (P.cellsOf f2.type)) = ys[2]? ∧ DataW.trod enc P w base spare held n f3.type ((cs.drop f3.offset).take (P.cellsOf f3.type)) = ys[3]? ∧ DataW.trod enc P w base spare held n f4.type ((cs.drop f4.offset).take (P.cellsOf f4.type)) = ys[4]? ∧ DataW.trod enc P w base spare held n f5.type ((cs.drop f5.offset).take (P.cellsOf f5.type)) = ys[5]? ∧ DataW.trod enc P w base spare held n f6.type ((cs.drop f6.offset).take (P.cellsOf f6.type)) = ys[6]? := by
  obtain ⟨ys, n, _, rfl, hl, hlen, hf⟩ := DataW.trod_struct ht h
  exact ⟨ys, n, rfl, hlen, hf 0 f0 rfl, hf 1 f1 rfl, hf 2 f2 rfl, hf 3 f3 rfl, hf 4 f4 rfl, hf 5 f5 rfl, hf 6 f6 rfl⟩
/-- The program's table of marks lies there. -/
def MarksAt (w : World) : Prop := ∀ r : Nat, r < 10 → ∀ i : Nat, i < 7 → w.cell? ⟨0, r * 7 + i, none⟩ = some (.string (mkF r i))
theorem MarksAt.below {w w' : World} (h : MarksAt w) (hb : Below w.heap.size w w') : MarksAt w' := fun r hr i hi => cell_below (h r hr i hi) hb
theorem mkF_bytes {r i : Nat} {s : ByteArray} (hr : r < 10) (h : s.data.toList = (mkBytes.getD r []).getD i []) : s = mkF r i := by
  unfold mkF
  rw [if_pos (by omega), Int.toNat_natCast, ← h]
set_option maxRecDepth 100000 in
theorem marks_of {W : World} {r : List (String × DataW Unit)} (h : laidMet Tryd.prog (("loop.example/g00953/impl.markTable", Rows.laid_loop_example_g00953_impl_markTable) :: r) W) : MarksAt W := by
  obtain ⟨ps, ⟨g, t, cs, fuel, p, q, hg, ht, hv, hd, _, _⟩, _, _⟩ := h
  obtain rfl := Option.some.inj ((show Tryd.prog.globalNamed "loop.example/g00953/impl.markTable" = some 0 by kernel_rfl).symm.trans hg)
  obtain rfl := Option.some.inj ((show (Tryd.prog.globals[0]?).map (·.type) = some 53 by kernel_rfl).symm.trans ht)
  obtain ⟨xs, m, _, ex, _, hl, hel⟩ := DataW.trod_array Tryd.underlying53 hd
  have c7 : Tryd.prog.cellsOf 49 = 7 := by kernel_rfl
  have c1 : Tryd.prog.cellsOf 9 = 1 := by kernel_rfl
  intro r hr
  have hE := hel r hr
  rw [c7, List.getElem?_eq_getElem (by omega)] at hE
  obtain ⟨ys, n, e4, hyl, g0, g1, g2, g3, g4, g5, g6⟩ := trod_struct7 Tryd.underlying49 hE
  have hyl7 : ys.length = 7 := hyl
  have e3 : (xs.map (·.1)) = (mkBytes.map fun k => (.agg (k.map fun b => .lit (.string b)) : DataW Unit)) := (DataW.agg.inj (Prod.mk.inj ex).1).symm
  have e5 : (xs.map (·.1))[r]? = (mkBytes.map fun k => (.agg (k.map fun b => .lit (.string b)) : DataW Unit))[r]? := by rw [e3]
  have hlen : mkBytes.length = 10 := rfl
  rw [List.getElem?_map, List.getElem?_map, List.getElem?_eq_getElem (by omega : r < xs.length), List.getElem?_eq_getElem (by omega : r < mkBytes.length)] at e5
  simp only [Option.map_some, Option.some.injEq] at e5
  rw [e4] at e5
  simp only [DataW.agg.injEq] at e5
  have hrow : mkBytes.getD r [] = mkBytes[r]'(by omega) := by rw [List.getD, List.getElem?_eq_getElem (by omega : r < mkBytes.length)]; rfl
  intro i hi
  have h1 : ∃ s : ByteArray, ((((cs.toList.drop (r * 7)).take 7).drop i).take 1) = [.string s] ∧ ys[i]? = some (.lit (.string s.data.toList), []) := by
    have hy : ys[i]? = some (ys[i]'(by omega)) := List.getElem?_eq_getElem (by omega)
    have hG : ∀ (j : Nat), i = j → DataW.trod (fun _ => ()) Tryd.prog W 0 (fun _ => true) false n 9 ((((cs.toList.drop (r * 7)).take 7).drop j).take 1) = ys[j]? → ∃ s : ByteArray, ((((cs.toList.drop (r * 7)).take 7).drop i).take 1) = [.string s] ∧ ys[i]? = some (.lit (.string s.data.toList), []) := by
      intro j hj h2
      subst hj
      rw [hy] at h2
      obtain ⟨s, s1, s2, _⟩ := DataW.trod_string Tryd.underlying9 h2
      exact ⟨s, s1, by rw [hy, ← s2]⟩
    simp only [c1] at g0 g1 g2 g3 g4 g5 g6
    have : i = 0 ∨ i = 1 ∨ i = 2 ∨ i = 3 ∨ i = 4 ∨ i = 5 ∨ i = 6 := by omega
    rcases this with e | e | e | e | e | e | e
    · exact hG 0 e g0
    · exact hG 1 e g1
    · exact hG 2 e g2
    · exact hG 3 e g3
    · exact hG 4 e g4
    · exact hG 5 e g5
    · exact hG 6 e g6
  obtain ⟨s, s1, s2⟩ := h1
  have e6 : (ys.map (·.1))[i]? = ((mkBytes[r]'(by omega)).map fun b => (.lit (.string b) : DataW Unit))[i]? := by rw [e5]
  rw [List.getElem?_map, List.getElem?_map, s2] at e6
  have hs : s = mkF r i := by
    refine mkF_bytes hr ?_
    rw [hrow, List.getD]
    cases hb : (mkBytes[r]'(by omega))[i]? with
    | none => rw [hb] at e6; cases e6
    | some b =>
      rw [hb] at e6
      simp only [Option.map_some, Option.some.injEq, DataW.lit.injEq, Lit.string.injEq] at e6
      rw [e6]; rfl
  rw [World.var?_cell hg hv (r * 7 + i), ← hs]
  have := pick_cell7 s1
  simpa using this
/-- What a row's list says of the table. -/
theorem marks_in {W : World} {l : List (String × DataW Unit)} (h : laidMet Tryd.prog l W) (e : (l.filter fun x => x.1 == "loop.example/g00953/impl.markTable") = [("loop.example/g00953/impl.markTable", Rows.laid_loop_example_g00953_impl_markTable)]) : MarksAt W :=
  marks_of (r := []) (by have := h.filter (fun x => x.1 == "loop.example/g00953/impl.markTable"); rwa [e] at this)
end Go.Proofs.YthheacebafleeaaDoor
