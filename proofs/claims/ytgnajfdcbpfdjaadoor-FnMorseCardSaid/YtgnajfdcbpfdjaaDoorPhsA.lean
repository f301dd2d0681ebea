/- A slice of phases as an argument of a law: opened. -/
import Derived.Test.YtgnajfdcbpfdjaaDoorPhs
import Derived.Deep.Slices
import Derived.ChangeSame
namespace Go.Proofs.YtgnajfdcbpfdjaaDoor
open Go.ChangeShapes Go.WideShapes Go.ChangeAt Go.RowKit Go.Deep Pm

theorem Tryd.cellsLawPhase : Tryd.prog.cellsOf 57 = 2 := by kernel_rfl
/-- What is told of a slice of phases that came in: it reads as phases, nothing is longer than memory allows. -/
structure GotPh (w : World) (a : Option Addr) (n : Nat) (ps : List Ph) : Prop where
  arg : ArgPh w a n ps
  len : n ≤ maxLen
  sz : ∀ i, i < ps.length → (ps.getD i ph0).1.size ≤ maxLen
  wf : ∀ i, i < ps.length → (Lit.int .i64 (ps.getD i ph0).2).wf = true
theorem GotPh.below {w w' : World} {a : Option Addr} {n : Nat} {ps : List Ph} (h : GotPh w a n ps) (hb : Below w.heap.size w w') : GotPh w' a n ps := ⟨h.arg.below hb, h.len, h.sz, h.wf⟩

theorem arg_ph {H : Type} {enc : TypeId × Value → H} {w : World} {held : Bool} {a : Option Addr} {len cap : Nat} {d : DataW H} {p : List MemPlace}
    (h : DataW.Trod enc Tryd.prog w 0 (fun _ => true) held 28 (.slice a len cap) d p) : ∃ ps, GotPh w a len ps := by
  obtain ⟨fuel, hf⟩ := h
  rcases open_slice Tryd.underlying28 hf with ⟨hcs, _⟩ | ⟨x, l, c, m, n, D, Pl, hcs, _, hl, hm, hmm, _, hx⟩
  · simp [Value.cells] at hcs
    obtain ⟨rfl, rfl, rfl⟩ := hcs
    exact ⟨[], ⟨rfl, .inl rfl⟩, by unfold maxLen; omega, fun i hi => by simp at hi, fun i hi => by simp at hi⟩
  · simp [Value.cells] at hcs
    obtain ⟨rfl, rfl, rfl⟩ := hcs
    have hml : len ≤ m := by rw [hmm]; simp; omega
    have key : ∀ i, i < len → ∃ q : Ph, w.cell? ((x.add (i * 2)).add 0) = some (.string q.1) ∧ w.cell? ((x.add (i * 2)).add 1) = some (.int .i64 q.2) ∧ q.1.size ≤ maxLen ∧ (Lit.int .i64 q.2).wf = true := by
      intro i hi
      obtain ⟨cs', h1, h2⟩ := hx i (by omega)
      rw [Tryd.cellsLawPhase] at h1
      obtain ⟨y0, y1, n', _, _, t0, t1⟩ := trod_struct2 Tryd.underlying57 h2
      have c1 : Tryd.prog.cellsOf 9 = 1 := by kernel_rfl
      have c2 : Tryd.prog.cellsOf 2 = 1 := by kernel_rfl
      simp only [c1, c2, List.drop_zero] at t0 t1
      obtain ⟨_, hlen, hcell⟩ := World.cells?_some h1
      match cs', hlen with
      | [v0, v1], _ =>
        obtain ⟨a0, e0, _, hsz⟩ := DataW.trod_string Tryd.underlying9 t0
        obtain ⟨b0, e1, _, wb⟩ := DataW.trod_int Tryd.underlying2 t1
        simp at e0 e1
        subst e0 e1
        exact ⟨(a0, b0), hcell 0 (by omega), hcell 1 (by omega), hsz, wb⟩
    obtain ⟨f, hf2⟩ := choose_lt key
    have hlen : ((List.range len).map f).length = len := by simp
    by_cases h0 : len = 0
    · subst h0
      exact ⟨[], ⟨rfl, .inl rfl⟩, by unfold maxLen; omega, fun i hi => by simp at hi, fun i hi => by simp at hi⟩
    · obtain ⟨b, off, spot⟩ := x
      have hs : spot = none := by
        have := World.cell?_spot (hf2 0 (by omega)).1
        simpa [Addr.add] using this
      subst hs
      have e : ∀ i, i < len → ((List.range len).map f).getD i ph0 = f i := fun i hi => by simp [hi]
      refine ⟨(List.range len).map f, ⟨hlen.symm, .inr ⟨b, off, rfl, fun i hi => ?_⟩⟩, by omega, fun i hi => by rw [hlen] at hi; rw [e i hi]; exact (hf2 i hi).2.2.1, fun i hi => by rw [hlen] at hi; rw [e i hi]; exact (hf2 i hi).2.2.2⟩
      rw [hlen] at hi
      obtain ⟨k0, k1, _⟩ := hf2 i hi
      rw [e i hi]
      have e1 : ∀ j, (({ block := b, off := off, spot := none } : Addr).add (i * 2)).add j = ⟨b, off + i * 2 + j, none⟩ := by
        intro j
        simp only [Addr.add]
        by_cases h1 : i * 2 = 0 <;> by_cases h2 : j = 0 <;> simp [h1, h2]
      rw [e1] at k0 k1
      exact ⟨k0, k1⟩
end Go.Proofs.YtgnajfdcbpfdjaaDoor
