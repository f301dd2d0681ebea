/- A slice of sectors as an argument of a law: opened. -/
import Derived.Test.YtclbpjjnhfllkaaSct
import Derived.Deep.Slices
import Derived.ChangeSame
import Derived.Lib.SmallJoins
import Derived.ChangeMaps5
import Derived.ProofKit
import Derived.OpenShut
namespace Go.Proofs.Ytclbpjjnhfllkaa
open Go.ChangeShapes Go.WideShapes Go.ChangeAt Go.RowKit Go.Deep Go.Joins Pm

theorem Try.cellsLawSector : Try.prog.cellsOf 23 = 3 := by kernel_rfl
/-- What is told of a slice of sectors that came in: it reads as sectors, nothing is longer than memory allows. -/
structure GotSec (w : World) (a : Option Addr) (n : Nat) (ps : List Sec) : Prop where
  arg : ArgSec w a n ps
  len : n ≤ maxLen
  sz : ∀ i, i < ps.length → (ps.getD i sec0).2.2.size ≤ maxLen
  wf : ∀ i, i < ps.length → (Lit.int .i64 (ps.getD i sec0).1).wf = true ∧ (Lit.int .i64 (ps.getD i sec0).2.1).wf = true
theorem GotSec.below {w w' : World} {a : Option Addr} {n : Nat} {ps : List Sec} (h : GotSec w a n ps) (hb : Below w.heap.size w w') : GotSec w' a n ps := ⟨h.arg.below hb, h.len, h.sz, h.wf⟩

theorem arg_secs {H : Type} {enc : TypeId × Value → H} {w : World} {held : Bool} {a : Option Addr} {len cap : Nat} {d : DataW H} {p : List MemPlace}
    (h : DataW.Trod enc Try.prog w 0 (fun _ => true) held 29 (.slice a len cap) d p) : ∃ ps, GotSec w a len ps := by
  obtain ⟨fuel, hf⟩ := h
  rcases open_slice Try.underlying29 hf with ⟨hcs, _⟩ | ⟨x, l, c, m, n, D, Pl, hcs, _, hl, hm, hmm, _, hx⟩
  · simp [Value.cells] at hcs
    obtain ⟨rfl, rfl, rfl⟩ := hcs
    exact ⟨[], ⟨rfl, .inl rfl⟩, by unfold maxLen; omega, fun i hi => by simp at hi, fun i hi => by simp at hi⟩
  · simp [Value.cells] at hcs
    obtain ⟨rfl, rfl, rfl⟩ := hcs
    have hml : len ≤ m := by rw [hmm]; simp; omega
    have key : ∀ i, i < len → ∃ q : Sec, w.cell? ((x.add (i * 3)).add 0) = some (.int .i64 q.1) ∧ w.cell? ((x.add (i * 3)).add 1) = some (.int .i64 q.2.1) ∧ w.cell? ((x.add (i * 3)).add 2) = some (.string q.2.2) ∧ (Lit.int .i64 q.1).wf = true ∧ (Lit.int .i64 q.2.1).wf = true ∧ q.2.2.size ≤ maxLen := by
      intro i hi
      obtain ⟨cs', h1, h2⟩ := hx i (by omega)
      rw [Try.cellsLawSector] at h1
      obtain ⟨y0, y1, y2, n', _, _, t0, t1, t2⟩ := trod_struct3 Try.underlying23 h2
      have c1 : Try.prog.cellsOf 9 = 1 := by kernel_rfl
      have c2 : Try.prog.cellsOf 2 = 1 := by kernel_rfl
      simp only [c1, c2, List.drop_zero] at t0 t1 t2
      obtain ⟨_, hlen, hcell⟩ := World.cells?_some h1
      match cs', hlen with
      | [v0, v1, v2], _ =>
        obtain ⟨a0, e0, _, wa⟩ := DataW.trod_int Try.underlying2 t0
        obtain ⟨b0, e1, _, wb⟩ := DataW.trod_int Try.underlying2 t1
        obtain ⟨s0, e2, _, hsz⟩ := DataW.trod_string Try.underlying9 t2
        simp at e0 e1 e2
        subst e0 e1 e2
        exact ⟨(a0, b0, s0), hcell 0 (by omega), hcell 1 (by omega), hcell 2 (by omega), wa, wb, hsz⟩
    obtain ⟨f, hf2⟩ := choose_lt key
    have hlen : ((List.range len).map f).length = len := by simp
    by_cases h0 : len = 0
    · subst h0
      exact ⟨[], ⟨rfl, .inl rfl⟩, by unfold maxLen; omega, fun i hi => by simp at hi, fun i hi => by simp at hi⟩
    · obtain ⟨b, off, spot⟩ := x
      have hs : spot = none := by
        have := World.cell?_spot (hf2 0 (by omega)).1
        simpa [Addr.add] using this
      subst hs
      have e : ∀ i, i < len → ((List.range len).map f).getD i sec0 = f i := fun i hi => by simp [hi]
      refine ⟨(List.range len).map f, ⟨hlen.symm, .inr ⟨b, off, rfl, fun i hi => ?_⟩⟩, by omega, fun i hi => by rw [hlen] at hi; rw [e i hi]; exact (hf2 i hi).2.2.2.2.2, fun i hi => by rw [hlen] at hi; rw [e i hi]; exact ⟨(hf2 i hi).2.2.2.1, (hf2 i hi).2.2.2.2.1⟩⟩
      rw [hlen] at hi
      obtain ⟨k0, k1, k2, _⟩ := hf2 i hi
      rw [e i hi]
      have e1 : ∀ j, (({ block := b, off := off, spot := none } : Addr).add (i * 3)).add j = ⟨b, off + i * 3 + j, none⟩ := by
        intro j
        simp only [Addr.add]
        by_cases h1 : i * 3 = 0 <;> by_cases h2 : j = 0 <;> simp [h1, h2]
      rw [e1] at k0 k1 k2
      exact ⟨k0, k1, k2⟩
theorem open_sec {H : Type} {enc : TypeId × Value → H} {w : World} {base : Nat} {spare : Nat → Bool} {held : Bool} {r : Reach} {b0 : Nat} {v : Value} {d : DataW H} {p : List MemPlace}
    (hv : Value.okWide Try.prog w r b0 23 v) (h : DataW.Trod enc Try.prog w base spare held 23 v d p) :
    ∃ (x y : Int) (s : ByteArray), v = .agg #[.int .i64 x, .int .i64 y, .string s] ∧ d = .agg [.lit (.int .i64 x), .lit (.int .i64 y), .lit (.string s.data.toList)] ∧ p = [] ∧ (Lit.int .i64 x).wf = true ∧ (Lit.int .i64 y).wf = true ∧ s.size ≤ maxLen := by
  obtain ⟨c0, c1, c2, y0, y1, y2, m, rfl, rfl, rfl, hy0, hy1, hy2⟩ := open_agg3 Try.underlying23 (by kernel_rfl) Try.cellsLawSector hv h
  obtain ⟨a, e0, rfl, wa⟩ := DataW.trod_int Try.underlying2 hy0
  obtain ⟨b, e1, rfl, wb⟩ := DataW.trod_int Try.underlying2 hy1
  obtain ⟨s, e2, rfl, ws⟩ := DataW.trod_string Try.underlying9 hy2
  simp at e0 e1 e2
  subst e0 e1 e2
  exact ⟨a, b, s, rfl, rfl, rfl, wa, wb, ws⟩
theorem shut_sec {H : Type} {enc : TypeId × Value → H} {w : World} {base : Nat} {spare : Nat → Bool} {held : Bool} {x y : Int} {s : ByteArray} (wx : (Lit.int .i64 x).wf = true) (wy : (Lit.int .i64 y).wf = true) (ws : s.size ≤ maxLen) :
    DataW.Trod enc Try.prog w base spare held 23 (.agg #[.int .i64 x, .int .i64 y, .string s]) (.agg [.lit (.int .i64 x), .lit (.int .i64 y), .lit (.string s.data.toList)]) [] :=
  shut_agg3 (y0 := (.lit (.int .i64 x), [])) (y1 := (.lit (.int .i64 y), [])) (y2 := (.lit (.string s.data.toList), [])) Try.underlying23 (by kernel_rfl) Try.cellsLawSector ⟨1, by simp [DataW.trod, Try.underlying2, wx]⟩ ⟨1, by simp [DataW.trod, Try.underlying2, wy]⟩ ⟨1, by simp [DataW.trod, Try.underlying9, ws]⟩
end Go.Proofs.Ytclbpjjnhfllkaa
