/- A slice of buoys as an argument of a law: opened. -/
import Derived.Test.YtcoldhdghcdaeaaBuo
import Derived.Deep.Slices
import Derived.ChangeSame
import Derived.Lib.SmallJoins
import Derived.ChangeMaps5
import Derived.ProofKit
import Derived.OpenShut
namespace Go.Proofs.Ytcoldhdghcdaeaa
open Go.ChangeShapes Go.WideShapes Go.ChangeAt Go.RowKit Go.Deep Go.Joins Pm

theorem Try.cellsLawBuoy : Try.prog.cellsOf 86 = 3 := by kernel_rfl
/-- What is told of a slice of buoys that came in: it reads as buoys, nothing is longer than memory allows. -/
structure GotBuy (w : World) (a : Option Addr) (n : Nat) (ps : List Buy) : Prop where
  arg : ArgBuy w a n ps
  len : n ≤ maxLen
theorem GotBuy.below {w w' : World} {a : Option Addr} {n : Nat} {ps : List Buy} (h : GotBuy w a n ps) (hb : Below w.heap.size w w') : GotBuy w' a n ps := ⟨h.arg.below hb, h.len⟩

theorem arg_buys {H : Type} {enc : TypeId × Value → H} {w : World} {held : Bool} {a : Option Addr} {len cap : Nat} {d : DataW H} {p : List MemPlace}
    (h : DataW.Trod enc Try.prog w 0 (fun _ => true) held 47 (.slice a len cap) d p) : ∃ ps, GotBuy w a len ps := by
  obtain ⟨fuel, hf⟩ := h
  rcases open_slice Try.underlying47 hf with ⟨hcs, _⟩ | ⟨x, l, c, m, n, D, Pl, hcs, _, hl, hm, hmm, _, hx⟩
  · simp [Value.cells] at hcs
    obtain ⟨rfl, rfl, rfl⟩ := hcs
    exact ⟨[], ⟨rfl, .inl rfl⟩, by unfold maxLen; omega⟩
  · simp [Value.cells] at hcs
    obtain ⟨rfl, rfl, rfl⟩ := hcs
    have hml : len ≤ m := by rw [hmm]; simp; omega
    have key : ∀ i, i < len → ∃ q : Buy, w.cell? ((x.add (i * 3)).add 0) = some (.int .i64 q.1) ∧ w.cell? ((x.add (i * 3)).add 1) = some (.int .i64 q.2.1) ∧ w.cell? ((x.add (i * 3)).add 2) = some (.int .i64 q.2.2) := by
      intro i hi
      obtain ⟨cs', h1, h2⟩ := hx i (by omega)
      rw [Try.cellsLawBuoy] at h1
      obtain ⟨y0, y1, n', _, _, t0, t1⟩ := trod_struct2 Try.underlying86 h2
      have c1 : Try.prog.cellsOf 42 = 2 := by kernel_rfl
      have c2 : Try.prog.cellsOf 2 = 1 := by kernel_rfl
      simp only [c1, c2, List.drop_zero] at t0 t1
      obtain ⟨_, hlen, hcell⟩ := World.cells?_some h1
      match cs', hlen with
      | [v0, v1, v2], _ =>
        simp only [List.take_succ_cons, List.take_zero, List.drop_succ_cons, List.drop_zero] at t0 t1
        obtain ⟨z0, z1, n'', _, _, s0, s1⟩ := trod_struct2 Try.underlying42 t0
        simp only [c2, List.drop_zero, List.take_succ_cons, List.take_zero, List.drop_succ_cons] at s0 s1
        obtain ⟨a0, e0, _, _⟩ := DataW.trod_int Try.underlying2 s0
        obtain ⟨b0, e1, _, _⟩ := DataW.trod_int Try.underlying2 s1
        obtain ⟨d0, e2, _, _⟩ := DataW.trod_int Try.underlying2 t1
        simp at e0 e1 e2
        subst e0 e1 e2
        exact ⟨(a0, b0, d0), hcell 0 (by omega), hcell 1 (by omega), hcell 2 (by omega)⟩
    obtain ⟨f, hf2⟩ := choose_lt key
    have hlen : ((List.range len).map f).length = len := by simp
    by_cases h0 : len = 0
    · subst h0
      exact ⟨[], ⟨rfl, .inl rfl⟩, by unfold maxLen; omega⟩
    · obtain ⟨b, off, spot⟩ := x
      have hs : spot = none := by
        have := World.cell?_spot (hf2 0 (by omega)).1
        simpa [Addr.add] using this
      subst hs
      have e : ∀ i, i < len → ((List.range len).map f).getD i buy0 = f i := fun i hi => by simp [hi]
      refine ⟨(List.range len).map f, ⟨hlen.symm, .inr ⟨b, off, rfl, fun i hi => ?_⟩⟩, by omega⟩
      rw [hlen] at hi
      obtain ⟨k0, k1, k2⟩ := hf2 i hi
      rw [e i hi]
      have e1 : ∀ j, (({ block := b, off := off, spot := none } : Addr).add (i * 3)).add j = ⟨b, off + i * 3 + j, none⟩ := by
        intro j
        simp only [Addr.add]
        by_cases h1 : i * 3 = 0 <;> by_cases h2 : j = 0 <;> simp [h1, h2]
      rw [e1] at k0 k1 k2
      exact ⟨k0, k1, k2⟩
end Go.Proofs.Ytcoldhdghcdaeaa
