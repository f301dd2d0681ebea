/- A slice of dangers as an argument of a law: opened. -/
import Derived.Test.YthccbipjmheoaaaDoorDgr
import Derived.Deep.Slices
import Derived.ChangeSame
import Derived.Lib.SmallJoins
import Derived.ChangeMaps5
import Derived.ProofKit
import Derived.OpenShut
namespace Go.Proofs.YthccbipjmheoaaaDoor
open Go.ChangeShapes Go.WideShapes Go.ChangeAt Go.RowKit Go.Deep Go.Joins Pm

set_option maxRecDepth 100000 in
theorem Tryd.cellsLawDanger : Tryd.prog.cellsOf 25 = 4 := by kernel_rfl
/-- What is told of a slice of dangers that came in: it reads as dangers, nothing is longer than memory allows. -/
structure GotDg (w : World) (a : Option Addr) (n : Nat) (ps : List Dg) : Prop where
  arg : ArgDg w a n ps
  len : n ≤ maxLen
  sz : ∀ p, p ∈ ps → p.1.size ≤ maxLen
theorem GotDg.below {w w' : World} {a : Option Addr} {n : Nat} {ps : List Dg} (h : GotDg w a n ps) (hb : Below w.heap.size w w') : GotDg w' a n ps := ⟨h.arg.below hb, h.len, h.sz⟩
set_option maxRecDepth 100000 in
/-- The four cells of a danger. -/
theorem dg_cells {H : Type} {enc : TypeId × Value → H} {w : World} {held : Bool} {v0 v1 v2 v3 : Value} {d : DataW H × List MemPlace} {fuel : Nat}
    (h : DataW.trod enc Tryd.prog w 0 (fun _ => true) held fuel 25 [v0, v1, v2, v3] = some d) : ∃ q : Dg, v0 = .string q.1 ∧ v1 = .int .i64 q.2.1 ∧ v2 = .int .i64 q.2.2.1 ∧ v3 = .int .i64 q.2.2.2 ∧ q.1.size ≤ maxLen := by
  obtain ⟨y0, y1, y2, n', _, _, t0, t1, t2⟩ := trod_struct3 Tryd.underlying25 h
  have c0 : Tryd.prog.cellsOf 9 = 1 := by kernel_rfl
  have c1 : Tryd.prog.cellsOf 23 = 2 := by kernel_rfl
  have c2 : Tryd.prog.cellsOf 2 = 1 := by kernel_rfl
  simp only [c0, c1, c2, List.drop_zero, List.take_succ_cons, List.take_zero, List.drop_succ_cons] at t0 t1 t2
  obtain ⟨z0, z1, n'', _, _, s0, s1⟩ := trod_struct2 Tryd.underlying23 t1
  simp only [c2, List.drop_zero, List.take_succ_cons, List.take_zero, List.drop_succ_cons] at s0 s1
  obtain ⟨n0, e0, _, hsz⟩ := DataW.trod_string Tryd.underlying9 t0
  obtain ⟨b0, e1, _, _⟩ := DataW.trod_int Tryd.underlying2 s0
  obtain ⟨d0, e2, _, _⟩ := DataW.trod_int Tryd.underlying2 s1
  obtain ⟨r0, e3, _, _⟩ := DataW.trod_int Tryd.underlying2 t2
  simp at e0 e1 e2 e3
  subst e0 e1 e2 e3
  exact ⟨(n0, b0, d0, r0), rfl, rfl, rfl, rfl, hsz⟩
set_option maxRecDepth 100000 in
theorem arg_dg {H : Type} {enc : TypeId × Value → H} {w : World} {held : Bool} {r : Reach} {b0 : Nat} {v : Value} {d : DataW H} {p : List MemPlace}
    (hv : Value.okWide Tryd.prog w r b0 25 v) (h : DataW.Trod enc Tryd.prog w 0 (fun _ => true) held 25 v d p) :
    ∃ q : Dg, v = .agg #[.string q.1, .int .i64 q.2.1, .int .i64 q.2.2.1, .int .i64 q.2.2.2] ∧ q.1.size ≤ maxLen := by
  obtain ⟨cs, rfl, hcs⟩ := okWide_struct Tryd.underlying25 hv
  rw [Tryd.cellsLawDanger] at hcs
  obtain ⟨fuel, hf⟩ := h
  obtain ⟨l⟩ := cs
  match l, hcs with
  | [v0, v1, v2, v3], _ =>
    obtain ⟨q, rfl, rfl, rfl, rfl, hq⟩ := dg_cells (v0 := v0) (v1 := v1) (v2 := v2) (v3 := v3) (by simpa [Value.cells] using hf)
    exact ⟨q, rfl, hq⟩
set_option maxRecDepth 100000 in
theorem open_dg {H : Type} {enc : TypeId × Value → H} {w : World} {base : Nat} {spare : Nat → Bool} {held : Bool} {r : Reach} {b0 : Nat} {v : Value} {d : DataW H} {p : List MemPlace}
    (hv : Value.okWide Tryd.prog w r b0 25 v) (h : DataW.Trod enc Tryd.prog w base spare held 25 v d p) :
    ∃ (s : ByteArray) (x y z : Int), v = .agg #[.string s, .int .i64 x, .int .i64 y, .int .i64 z] ∧ d = .agg [.lit (.string s.data.toList), .agg [.lit (.int .i64 x), .lit (.int .i64 y)], .lit (.int .i64 z)] ∧ p = [] ∧ s.size ≤ maxLen ∧ (Lit.int .i64 x).wf = true ∧ (Lit.int .i64 y).wf = true ∧ (Lit.int .i64 z).wf = true := by
  obtain ⟨cs, rfl, hcs⟩ := okWide_struct Tryd.underlying25 hv
  rw [Tryd.cellsLawDanger] at hcs
  obtain ⟨fuel, hf⟩ := h
  obtain ⟨l⟩ := cs
  match l, hcs with
  | [v0, v1, v2, v3], _ =>
    simp only [Value.cells] at hf
    obtain ⟨y0, y1, y2, n', hy, _, t0, t1, t2⟩ := trod_struct3 Tryd.underlying25 hf
    have c0 : Tryd.prog.cellsOf 9 = 1 := by kernel_rfl
    have c1 : Tryd.prog.cellsOf 23 = 2 := by kernel_rfl
    have c2 : Tryd.prog.cellsOf 2 = 1 := by kernel_rfl
    simp only [c0, c1, c2, List.drop_zero, List.take_succ_cons, List.take_zero, List.drop_succ_cons] at t0 t1 t2
    obtain ⟨z0, z1, n'', hz, _, s0, s1⟩ := trod_struct2 Tryd.underlying23 t1
    simp only [c2, List.drop_zero, List.take_succ_cons, List.take_zero, List.drop_succ_cons] at s0 s1
    obtain ⟨n0, e0, x0, hsz⟩ := DataW.trod_string Tryd.underlying9 t0
    obtain ⟨b0, e1, x1, w1⟩ := DataW.trod_int Tryd.underlying2 s0
    obtain ⟨d0, e2, x2, w2⟩ := DataW.trod_int Tryd.underlying2 s1
    obtain ⟨r0, e3, x3, w3⟩ := DataW.trod_int Tryd.underlying2 t2
    subst x0 x1 x2 x3 hz
    simp at e0 e1 e2 e3
    subst e0 e1 e2 e3
    simp only [Prod.mk.injEq] at hy
    obtain ⟨hy1, hy2⟩ := hy
    exact ⟨n0, b0, d0, r0, rfl, hy1, by rw [hy2]; rfl, hsz, w1, w2, w3⟩
set_option maxRecDepth 100000 in
theorem shut_dg {H : Type} {enc : TypeId × Value → H} {w : World} {base : Nat} {spare : Nat → Bool} {held : Bool} {s : ByteArray} {x y z : Int} (ws : s.size ≤ maxLen) (wx : (Lit.int .i64 x).wf = true) (wy : (Lit.int .i64 y).wf = true) (wz : (Lit.int .i64 z).wf = true) :
    DataW.Trod enc Tryd.prog w base spare held 25 (.agg #[.string s, .int .i64 x, .int .i64 y, .int .i64 z]) (.agg [.lit (.string s.data.toList), .agg [.lit (.int .i64 x), .lit (.int .i64 y)], .lit (.int .i64 z)]) [] := by
  have c0 : Tryd.prog.cellsOf 9 = 1 := by kernel_rfl
  have c1 : Tryd.prog.cellsOf 23 = 2 := by kernel_rfl
  have c2 : Tryd.prog.cellsOf 2 = 1 := by kernel_rfl
  have hp : DataW.trod enc Tryd.prog w base spare held 2 23 [.int .i64 x, .int .i64 y] = some (.agg [.lit (.int .i64 x), .lit (.int .i64 y)], []) :=
    trod_struct2_mk (y0 := (.lit (.int .i64 x), [])) (y1 := (.lit (.int .i64 y), [])) Tryd.underlying23 c1.symm
      (by simp only [c2, List.drop_zero, List.take_succ_cons, List.take_zero]; exact trod_int_mk 0 Tryd.underlying2 wx)
      (by simp only [c2, List.drop_zero, List.take_succ_cons, List.take_zero, List.drop_succ_cons]; exact trod_int_mk 0 Tryd.underlying2 wy)
  have hs : DataW.trod enc Tryd.prog w base spare held 2 9 [.string s] = some (.lit (.string s.data.toList), []) := by simp [DataW.trod, Tryd.underlying9, ws]
  have hz : DataW.trod enc Tryd.prog w base spare held 2 2 [.int .i64 z] = some (.lit (.int .i64 z), []) := trod_int_mk 1 Tryd.underlying2 wz
  refine ⟨3, ?_⟩
  have h := trod_struct_mk (enc := enc) (w := w) (base := base) (spare := spare) (held := held) (n := 2) (cs := [.string s, .int .i64 x, .int .i64 y, .int .i64 z]) (xs := [(.lit (.string s.data.toList), []), (.agg [.lit (.int .i64 x), .lit (.int .i64 y)], []), (.lit (.int .i64 z), [])]) Tryd.underlying25 Tryd.cellsLawDanger.symm (by
    simp only [List.mapM_cons, List.mapM_nil, c0, c1, c2, List.drop_zero, List.take_succ_cons, List.take_zero, List.drop_succ_cons, hp, hs, hz]
    rfl)
  simpa [Value.cells] using h
end Go.Proofs.YthccbipjmheoaaaDoor
