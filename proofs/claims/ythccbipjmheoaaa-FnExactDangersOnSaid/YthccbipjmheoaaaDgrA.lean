/- A slice of dangers as an argument of a law: opened. -/
import Derived.Test.YthccbipjmheoaaaDgrX
import Derived.Deep.Slices
import Derived.ChangeSame
import Derived.Lib.SmallJoins
import Derived.ChangeMaps5
import Derived.ProofKit
import Derived.OpenShut
namespace Go.Proofs.Ythccbipjmheoaaa
open Go.ChangeShapes Go.WideShapes Go.ChangeAt Go.RowKit Go.Deep Go.Joins Pm

set_option maxRecDepth 100000 in
theorem Try.cellsLawDanger : Try.prog.cellsOf 40 = 4 := by kernel_rfl
/-- What is told of a slice of dangers that came in: it reads as dangers, nothing is longer than memory allows. -/
structure GotDg (w : World) (a : Option Addr) (n : Nat) (ps : List Dg) : Prop where
  arg : ArgDg w a n ps
  len : n ≤ maxLen
  sz : ∀ p, p ∈ ps → p.1.size ≤ maxLen
theorem GotDg.below {w w' : World} {a : Option Addr} {n : Nat} {ps : List Dg} (h : GotDg w a n ps) (hb : Below w.heap.size w w') : GotDg w' a n ps := ⟨h.arg.below hb, h.len, h.sz⟩
set_option maxRecDepth 100000 in
/-- The four cells of a danger. -/
theorem dg_cells {H : Type} {enc : TypeId × Value → H} {w : World} {held : Bool} {v0 v1 v2 v3 : Value} {d : DataW H × List MemPlace} {fuel : Nat}
    (h : DataW.trod enc Try.prog w 0 (fun _ => true) held fuel 40 [v0, v1, v2, v3] = some d) : ∃ q : Dg, v0 = .string q.1 ∧ v1 = .int .i64 q.2.1 ∧ v2 = .int .i64 q.2.2.1 ∧ v3 = .int .i64 q.2.2.2 ∧ q.1.size ≤ maxLen := by
  obtain ⟨y0, y1, y2, n', _, _, t0, t1, t2⟩ := trod_struct3 Try.underlying40 h
  have c0 : Try.prog.cellsOf 9 = 1 := by kernel_rfl
  have c1 : Try.prog.cellsOf 26 = 2 := by kernel_rfl
  have c2 : Try.prog.cellsOf 2 = 1 := by kernel_rfl
  simp only [c0, c1, c2, List.drop_zero, List.take_succ_cons, List.take_zero, List.drop_succ_cons] at t0 t1 t2
  obtain ⟨z0, z1, n'', _, _, s0, s1⟩ := trod_struct2 Try.underlying26 t1
  simp only [c2, List.drop_zero, List.take_succ_cons, List.take_zero, List.drop_succ_cons] at s0 s1
  obtain ⟨n0, e0, _, hsz⟩ := DataW.trod_string Try.underlying9 t0
  obtain ⟨b0, e1, _, _⟩ := DataW.trod_int Try.underlying2 s0
  obtain ⟨d0, e2, _, _⟩ := DataW.trod_int Try.underlying2 s1
  obtain ⟨r0, e3, _, _⟩ := DataW.trod_int Try.underlying2 t2
  simp at e0 e1 e2 e3
  subst e0 e1 e2 e3
  exact ⟨(n0, b0, d0, r0), rfl, rfl, rfl, rfl, hsz⟩
set_option maxRecDepth 100000 in
theorem arg_dg {H : Type} {enc : TypeId × Value → H} {w : World} {held : Bool} {r : Reach} {b0 : Nat} {v : Value} {d : DataW H} {p : List MemPlace}
    (hv : Value.okWide Try.prog w r b0 40 v) (h : DataW.Trod enc Try.prog w 0 (fun _ => true) held 40 v d p) :
    ∃ q : Dg, v = .agg #[.string q.1, .int .i64 q.2.1, .int .i64 q.2.2.1, .int .i64 q.2.2.2] ∧ q.1.size ≤ maxLen := by
  obtain ⟨cs, rfl, hcs⟩ := okWide_struct Try.underlying40 hv
  rw [Try.cellsLawDanger] at hcs
  obtain ⟨fuel, hf⟩ := h
  obtain ⟨l⟩ := cs
  match l, hcs with
  | [v0, v1, v2, v3], _ =>
    obtain ⟨q, rfl, rfl, rfl, rfl, hq⟩ := dg_cells (v0 := v0) (v1 := v1) (v2 := v2) (v3 := v3) (by simpa [Value.cells] using hf)
    exact ⟨q, rfl, hq⟩
set_option maxRecDepth 100000 in
theorem open_dg {H : Type} {enc : TypeId × Value → H} {w : World} {base : Nat} {spare : Nat → Bool} {held : Bool} {r : Reach} {b0 : Nat} {v : Value} {d : DataW H} {p : List MemPlace}
    (hv : Value.okWide Try.prog w r b0 40 v) (h : DataW.Trod enc Try.prog w base spare held 40 v d p) :
    ∃ (s : ByteArray) (x y z : Int), v = .agg #[.string s, .int .i64 x, .int .i64 y, .int .i64 z] ∧ d = .agg [.lit (.string s.data.toList), .agg [.lit (.int .i64 x), .lit (.int .i64 y)], .lit (.int .i64 z)] ∧ p = [] ∧ s.size ≤ maxLen ∧ (Lit.int .i64 x).wf = true ∧ (Lit.int .i64 y).wf = true ∧ (Lit.int .i64 z).wf = true := by
  obtain ⟨cs, rfl, hcs⟩ := okWide_struct Try.underlying40 hv
  rw [Try.cellsLawDanger] at hcs
  obtain ⟨fuel, hf⟩ := h
  obtain ⟨l⟩ := cs
  match l, hcs with
  | [v0, v1, v2, v3], _ =>
    simp only [Value.cells] at hf
    obtain ⟨y0, y1, y2, n', hy, _, t0, t1, t2⟩ := trod_struct3 Try.underlying40 hf
    have c0 : Try.prog.cellsOf 9 = 1 := by kernel_rfl
    have c1 : Try.prog.cellsOf 26 = 2 := by kernel_rfl
    have c2 : Try.prog.cellsOf 2 = 1 := by kernel_rfl
    simp only [c0, c1, c2, List.drop_zero, List.take_succ_cons, List.take_zero, List.drop_succ_cons] at t0 t1 t2
    obtain ⟨z0, z1, n'', hz, _, s0, s1⟩ := trod_struct2 Try.underlying26 t1
    simp only [c2, List.drop_zero, List.take_succ_cons, List.take_zero, List.drop_succ_cons] at s0 s1
    obtain ⟨n0, e0, x0, hsz⟩ := DataW.trod_string Try.underlying9 t0
    obtain ⟨b0, e1, x1, w1⟩ := DataW.trod_int Try.underlying2 s0
    obtain ⟨d0, e2, x2, w2⟩ := DataW.trod_int Try.underlying2 s1
    obtain ⟨r0, e3, x3, w3⟩ := DataW.trod_int Try.underlying2 t2
    subst x0 x1 x2 x3 hz
    simp at e0 e1 e2 e3
    subst e0 e1 e2 e3
    simp only [Prod.mk.injEq] at hy
    obtain ⟨hy1, hy2⟩ := hy
    exact ⟨n0, b0, d0, r0, rfl, hy1, by rw [hy2]; rfl, hsz, w1, w2, w3⟩
set_option maxRecDepth 100000 in
theorem shut_dg {H : Type} {enc : TypeId × Value → H} {w : World} {base : Nat} {spare : Nat → Bool} {held : Bool} {s : ByteArray} {x y z : Int} (ws : s.size ≤ maxLen) (wx : (Lit.int .i64 x).wf = true) (wy : (Lit.int .i64 y).wf = true) (wz : (Lit.int .i64 z).wf = true) :
    DataW.Trod enc Try.prog w base spare held 40 (.agg #[.string s, .int .i64 x, .int .i64 y, .int .i64 z]) (.agg [.lit (.string s.data.toList), .agg [.lit (.int .i64 x), .lit (.int .i64 y)], .lit (.int .i64 z)]) [] := by
  have c0 : Try.prog.cellsOf 9 = 1 := by kernel_rfl
  have c1 : Try.prog.cellsOf 26 = 2 := by kernel_rfl
  have c2 : Try.prog.cellsOf 2 = 1 := by kernel_rfl
  have hp : DataW.trod enc Try.prog w base spare held 2 26 [.int .i64 x, .int .i64 y] = some (.agg [.lit (.int .i64 x), .lit (.int .i64 y)], []) :=
    trod_struct2_mk (y0 := (.lit (.int .i64 x), [])) (y1 := (.lit (.int .i64 y), [])) Try.underlying26 c1.symm
      (by simp only [c2, List.drop_zero, List.take_succ_cons, List.take_zero]; exact trod_int_mk 0 Try.underlying2 wx)
      (by simp only [c2, List.drop_zero, List.take_succ_cons, List.take_zero, List.drop_succ_cons]; exact trod_int_mk 0 Try.underlying2 wy)
  have hs : DataW.trod enc Try.prog w base spare held 2 9 [.string s] = some (.lit (.string s.data.toList), []) := by simp [DataW.trod, Try.underlying9, ws]
  have hz : DataW.trod enc Try.prog w base spare held 2 2 [.int .i64 z] = some (.lit (.int .i64 z), []) := trod_int_mk 1 Try.underlying2 wz
  refine ⟨3, ?_⟩
  have h := trod_struct_mk (enc := enc) (w := w) (base := base) (spare := spare) (held := held) (n := 2) (cs := [.string s, .int .i64 x, .int .i64 y, .int .i64 z]) (xs := [(.lit (.string s.data.toList), []), (.agg [.lit (.int .i64 x), .lit (.int .i64 y)], []), (.lit (.int .i64 z), [])]) Try.underlying40 Try.cellsLawDanger.symm (by
    simp only [List.mapM_cons, List.mapM_nil, c0, c1, c2, List.drop_zero, List.take_succ_cons, List.take_zero, List.drop_succ_cons, hp, hs, hz]
    rfl)
  simpa [Value.cells] using h
set_option maxRecDepth 100000 in
theorem arg_dgs {H : Type} {enc : TypeId × Value → H} {w : World} {held : Bool} {a : Option Addr} {len cap : Nat} {d : DataW H} {p : List MemPlace}
    (h : DataW.Trod enc Try.prog w 0 (fun _ => true) held 47 (.slice a len cap) d p) : ∃ ps, GotDg w a len ps := by
  obtain ⟨fuel, hf⟩ := h
  rcases open_slice Try.underlying47 hf with ⟨hcs, _⟩ | ⟨x, l, c, m, n, D, Pl, hcs, _, hl, hm, hmm, _, hx⟩
  · simp [Value.cells] at hcs
    obtain ⟨rfl, rfl, rfl⟩ := hcs
    exact ⟨[], ⟨rfl, .inl rfl⟩, by unfold maxLen; omega, fun p hp => by cases hp⟩
  · simp [Value.cells] at hcs
    obtain ⟨rfl, rfl, rfl⟩ := hcs
    have hml : len ≤ m := by rw [hmm]; simp; omega
    have key : ∀ i, i < len → ∃ q : Dg, w.cell? ((x.add (i * 4)).add 0) = some (.string q.1) ∧ w.cell? ((x.add (i * 4)).add 1) = some (.int .i64 q.2.1) ∧ w.cell? ((x.add (i * 4)).add 2) = some (.int .i64 q.2.2.1) ∧ w.cell? ((x.add (i * 4)).add 3) = some (.int .i64 q.2.2.2) ∧ q.1.size ≤ maxLen := by
      intro i hi
      obtain ⟨cs', h1, h2⟩ := hx i (by omega)
      rw [Try.cellsLawDanger] at h1
      obtain ⟨_, hlen, hcell⟩ := World.cells?_some h1
      match cs', hlen with
      | [v0, v1, v2, v3], _ =>
        obtain ⟨q, rfl, rfl, rfl, rfl, hq⟩ := dg_cells h2
        exact ⟨q, hcell 0 (by omega), hcell 1 (by omega), hcell 2 (by omega), hcell 3 (by omega), hq⟩
    obtain ⟨f, hf2⟩ := choose_lt key
    have hlen : ((List.range len).map f).length = len := by simp
    by_cases h0 : len = 0
    · subst h0
      exact ⟨[], ⟨rfl, .inl rfl⟩, by unfold maxLen; omega, fun p hp => by cases hp⟩
    · obtain ⟨b, off, spot⟩ := x
      have hs : spot = none := by
        have := World.cell?_spot (hf2 0 (by omega)).1
        simpa [Addr.add] using this
      subst hs
      have e : ∀ i, i < len → ((List.range len).map f).getD i dg0 = f i := fun i hi => by simp [hi]
      refine ⟨(List.range len).map f, ⟨hlen.symm, .inr ⟨b, off, rfl, fun i hi => ?_⟩⟩, by omega, fun p hp => ?_⟩
      · rw [hlen] at hi
        obtain ⟨k0, k1, k2, k3, _⟩ := hf2 i hi
        rw [e i hi]
        have e1 : ∀ j, (({ block := b, off := off, spot := none } : Addr).add (i * 4)).add j = ⟨b, off + i * 4 + j, none⟩ := by
          intro j
          simp only [Addr.add]
          by_cases h1 : i * 4 = 0 <;> by_cases h2 : j = 0 <;> simp [h1, h2]
        rw [e1] at k0 k1 k2 k3
        exact ⟨k0, k1, k2, k3⟩
      · obtain ⟨i, hi, rfl⟩ := List.mem_map.1 hp
        exact (hf2 i (List.mem_range.1 hi)).2.2.2.2
end Go.Proofs.Ythccbipjmheoaaa
