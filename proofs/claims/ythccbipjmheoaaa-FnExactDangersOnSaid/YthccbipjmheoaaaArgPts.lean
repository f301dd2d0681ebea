/- A slice of points as an argument of a law: opened. -/
import Derived.Test.YthccbipjmheoaaaPtsE
import Derived.Deep.Slices
import Derived.ChangeSame
namespace Go.Proofs.Ythccbipjmheoaaa
open Go.ChangeShapes Go.WideShapes Go.ChangeAt Go.RowKit Go.Deep Pm

theorem arg_pts {H : Type} {enc : TypeId × Value → H} {w : World} {held : Bool} {a : Option Addr} {len cap : Nat} {d : DataW H} {p : List MemPlace}
    (h : DataW.Trod enc Try.prog w 0 (fun _ => true) held 22 (.slice a len cap) d p) : ∃ ps, ArgPts w a len ps ∧ len ≤ maxLen := by
  obtain ⟨fuel, hf⟩ := h
  rcases open_slice Try.underlying22 hf with ⟨hcs, _⟩ | ⟨x, l, c, m, n, D, Pl, hcs, _, hl, hm, hmm, _, hx⟩
  · simp [Value.cells] at hcs
    obtain ⟨rfl, rfl, rfl⟩ := hcs
    exact ⟨[], ⟨rfl, .inl rfl⟩, by unfold maxLen; omega⟩
  · simp [Value.cells] at hcs
    obtain ⟨rfl, rfl, rfl⟩ := hcs
    have hml : len ≤ m := by rw [hmm]; simp; omega
    have key : ∀ i, i < len → ∃ q : Int × Int, w.cell? ((x.add (i * 2)).add 0) = some (.int .i64 q.1) ∧ w.cell? ((x.add (i * 2)).add 1) = some (.int .i64 q.2) := by
      intro i hi
      obtain ⟨cs', h1, h2⟩ := hx i (by omega)
      rw [Try.cellsPt] at h1
      obtain ⟨y0, y1, n', _, _, t0, t1⟩ := trod_struct2 Try.underlying26 h2
      have c2 : Try.prog.cellsOf 2 = 1 := by kernel_rfl
      simp only [c2, List.drop_zero] at t0 t1
      obtain ⟨_, hlen, hcell⟩ := World.cells?_some h1
      match cs', hlen with
      | [v0, v1], _ =>
        obtain ⟨a0, e0, _, _⟩ := DataW.trod_int Try.underlying2 t0
        obtain ⟨b0, e1, _, _⟩ := DataW.trod_int Try.underlying2 t1
        simp at e0 e1
        subst e0 e1
        exact ⟨(a0, b0), hcell 0 (by omega), hcell 1 (by omega)⟩
    obtain ⟨f, hf2⟩ := choose_lt key
    have hlen : ((List.range len).map f).length = len := by simp
    by_cases h0 : len = 0
    · subst h0
      exact ⟨[], ⟨rfl, .inl rfl⟩, by unfold maxLen; omega⟩
    · obtain ⟨b, off, spot⟩ := x
      have hs : spot = none := by
        have := World.cell?_spot (hf2 0 (by omega)).1
        simpa [Addr.add] using this
      subst hs
      refine ⟨(List.range len).map f, ⟨hlen.symm, .inr ⟨b, off, rfl, fun i hi => ?_⟩⟩, by omega⟩
      rw [hlen] at hi
      obtain ⟨k0, k1⟩ := hf2 i hi
      have e : ((List.range len).map f).getD i (0, 0) = f i := by simp [hi]
      rw [e]
      have e1 : ∀ j, (({ block := b, off := off, spot := none } : Addr).add (i * 2)).add j = ⟨b, off + i * 2 + j, none⟩ := by
        intro j
        simp only [Addr.add]
        by_cases h1 : i * 2 = 0 <;> by_cases h2 : j = 0 <;> simp [h1, h2]
      rw [e1] at k0 k1
      exact ⟨k0, k1⟩
end Go.Proofs.Ythccbipjmheoaaa
