/- Characters of lights as arguments of a law: opened. -/
import Derived.Test.YthggoboljkdldaaChrM
import Derived.Test.YthggoboljkdldaaPt
import Derived.Test.YthggoboljkdldaaArgI
namespace Go.Proofs.Ythggoboljkdldaa
open Go.ChangeShapes Go.WideShapes Go.ChangeAt Go.RowKit Go.Joins Go.Deep

section
variable {H : Type} {enc : TypeId × Value → H} {P : Program} {w : World} {base : Nat} {spare : Nat → Bool} {held : Bool}
theorem array5 {α : Type} {cs : Array α} (h : cs.size = 5) : ∃ c0 c1 c2 c3 c4, cs = #[c0, c1, c2, c3, c4] := by
  obtain ⟨l⟩ := cs
  match l, h with
  | [c0, c1, c2, c3, c4], _ => exact ⟨c0, c1, c2, c3, c4, rfl⟩
theorem trod_struct5 {t : TypeId} {f0 f1 f2 f3 f4 : Field} {fuel : Nat} {cs : List Value} {x : DataW H × List MemPlace} (ht : P.underlying t = some (.struct #[f0, f1, f2, f3, f4])) (h : DataW.trod enc P w base spare held fuel t cs = some x) :
    ∃ y0 y1 y2 y3 y4 n, DataW.trod enc P w base spare held n f0.type ((cs.drop f0.offset).take (P.cellsOf f0.type)) = some y0 ∧
      DataW.trod enc P w base spare held n f1.type ((cs.drop f1.offset).take (P.cellsOf f1.type)) = some y1 ∧ DataW.trod enc P w base spare held n f2.type ((cs.drop f2.offset).take (P.cellsOf f2.type)) = some y2 ∧
      DataW.trod enc P w base spare held n f3.type ((cs.drop f3.offset).take (P.cellsOf f3.type)) = some y3 ∧ DataW.trod enc P w base spare held n f4.type ((cs.drop f4.offset).take (P.cellsOf f4.type)) = some y4 := by
  obtain ⟨xs, n, _, rfl, hl, hlen, hf⟩ := DataW.trod_struct ht h
  match xs, hlen with
  | [y0, y1, y2, y3, y4], _ => exact ⟨y0, y1, y2, y3, y4, n, by simpa using hf 0 f0 rfl, by simpa using hf 1 f1 rfl, by simpa using hf 2 f2 rfl, by simpa using hf 3 f3 rfl, by simpa using hf 4 f4 rfl⟩
theorem open_agg5 {r : Reach} {b0 : Nat} {t : TypeId} {f0 f1 f2 f3 f4 : Field} {v : Value} {d : DataW H} {p : List MemPlace} (hs : P.underlying t = some (.struct #[f0, f1, f2, f3, f4])) (hone : oneCellFields P #[f0, f1, f2, f3, f4] = true) (hC : P.cellsOf t = 5)
    (hv : Value.okWide P w r b0 t v) (h : DataW.Trod enc P w base spare held t v d p) :
    ∃ (v0 v1 v2 v3 v4 : Value) (y0 y1 y2 y3 y4 : DataW H × List MemPlace) (n : Nat), v = .agg #[v0, v1, v2, v3, v4] ∧
      DataW.trod enc P w base spare held n f0.type [v0] = some y0 ∧ DataW.trod enc P w base spare held n f1.type [v1] = some y1 ∧ DataW.trod enc P w base spare held n f2.type [v2] = some y2 ∧ DataW.trod enc P w base spare held n f3.type [v3] = some y3 ∧ DataW.trod enc P w base spare held n f4.type [v4] = some y4 := by
  obtain ⟨cs, rfl, hsz⟩ := okWide_struct hs hv
  obtain ⟨c0, c1, c2, c3, c4, rfl⟩ := array5 (hsz.trans hC)
  obtain ⟨fuel, hf⟩ := h
  obtain ⟨y0, y1, y2, y3, y4, n, h0, h1, h2, h3, h4⟩ := trod_struct5 hs hf
  obtain ⟨o0, k0⟩ := hone_of hone 0 f0 rfl
  obtain ⟨o1, k1⟩ := hone_of hone 1 f1 rfl
  obtain ⟨o2, k2⟩ := hone_of hone 2 f2 rfl
  obtain ⟨o3, k3⟩ := hone_of hone 3 f3 rfl
  obtain ⟨o4, k4⟩ := hone_of hone 4 f4 rfl
  exact ⟨c0, c1, c2, c3, c4, y0, y1, y2, y3, y4, n, rfl, by simpa [Value.cells, o0, k0] using h0, by simpa [Value.cells, o1, k1] using h1, by simpa [Value.cells, o2, k2] using h2, by simpa [Value.cells, o3, k3] using h3, by simpa [Value.cells, o4, k4] using h4⟩
end

set_option maxRecDepth 100000 in
theorem Try.cellsChr : Try.prog.cellsOf 24 = 5 := by kernel_rfl

/-- A character that came in: its group's slice reads as numbers, its texts and its group are no longer than memory allows. -/
structure ArgChr (w : World) (gv : Value) (c : Chr) : Prop where
  g : ArgInts .i64 w gv c.group
  lg : c.group.length ≤ maxLen
  ll : c.letter.length ≤ maxLen
  lc : c.colors.length ≤ maxLen
  k : -9223372036854775808 ≤ c.kind ∧ c.kind ≤ 9223372036854775807
  p : -9223372036854775808 ≤ c.period ∧ c.period ≤ 9223372036854775807

theorem bytes_of (s : ByteArray) : ∃ l : List UInt8, s = ⟨l.toArray⟩ ∧ l.length = s.size := by
  obtain ⟨⟨l⟩⟩ := s
  exact ⟨l, rfl, rfl⟩

set_option maxRecDepth 100000 in
theorem arg_chr {H : Type} {enc : TypeId × Value → H} {w : World} {held : Bool} {r : Reach} {b0 : Nat} {v : Value} {d : DataW H} {p : List MemPlace}
    (hv : Value.okWide Try.prog w r b0 24 v) (h : DataW.Trod enc Try.prog w 0 (fun _ => true) held 24 v d p) :
    ∃ (gv : Value) (c : Chr), v = .agg #[.int .i64 c.kind, gv, .string ⟨c.letter.toArray⟩, .string ⟨c.colors.toArray⟩, .int .i64 c.period] ∧ ArgChr w gv c := by
  obtain ⟨v0, v1, v2, v3, v4, y0, y1, y2, y3, y4, n, rfl, h0, h1, h2, h3, h4⟩ := open_agg5 Try.underlying24 (by kernel_rfl) Try.cellsChr hv h
  obtain ⟨k, e0, _, wk⟩ := DataW.trod_int Try.underlying2 h0
  obtain ⟨s, e2, _, ws⟩ := DataW.trod_string Try.underlying9 h2
  obtain ⟨t, e3, _, wt⟩ := DataW.trod_string Try.underlying9 h3
  obtain ⟨q, e4, _, wq⟩ := DataW.trod_int Try.underlying2 h4
  simp only [List.cons.injEq, and_true] at e0 e2 e3 e4
  subst e0 e2 e3 e4
  obtain ⟨l, rfl, hl⟩ := bytes_of s
  obtain ⟨co, rfl, hco⟩ := bytes_of t
  have bk := bounds_i64 wk
  have bq := bounds_i64 wq
  rcases open_ints Try.underlying22 Try.underlying2 (by kernel_rfl) h1 with ⟨e1, _⟩ | ⟨x, len, cap, zs, e1, _, hlc, hm, hz, _, hcell, hwz⟩
  · simp only [List.cons.injEq, and_true] at e1
    subst e1
    exact ⟨_, ⟨k, [], l, co, q⟩, rfl, .inl ⟨rfl, _, _, rfl⟩, Nat.zero_le _, by rw [hl]; exact ws, by rw [hco]; exact wt, by simp only; omega, by simp only; omega⟩
  · simp only [List.cons.injEq, and_true] at e1
    subst e1
    have hz' : zs.length = cap := by simpa using hz
    obtain ⟨hi, hlen⟩ := arg_ints (k := .i64) (w := w) (a := some x) (len := len) (cap := cap) (zs := zs) (.inr ⟨x, rfl, hlc, hm, hz', hcell, hwz⟩)
    exact ⟨_, ⟨k, zs.take len, l, co, q⟩, rfl, hi, by simp only [List.length_take]; omega, by rw [hl]; exact ws, by rw [hco]; exact wt, by simp only; omega, by simp only; omega⟩
end Go.Proofs.Ythggoboljkdldaa
