/- A slice of numbers as an argument of a law: what it reads as, its copy. -/
import Derived.Test.YthggoboljkdldaaSlices
namespace Go.Proofs.Ythggoboljkdldaa
open Go.ChangeShapes Go.WideShapes Go.ChangeAt Go.RowKit Pm

/-- A slice that came in reads as numbers: it is empty, wherever it leads, or a row of cells. -/
def ArgInts (k : IntKind) (w : World) (sv : Value) (zs : List Int) : Prop := (zs = [] ∧ ∃ a c, sv = .slice a 0 c) ∨ IntsAre k w sv zs
theorem ArgInts.below {k : IntKind} {w w' : World} {sv : Value} {zs : List Int} (h : ArgInts k w sv zs) (hb : Below w.heap.size w w') : ArgInts k w' sv zs :=
  h.elim .inl fun h => .inr (h.below hb)
theorem ArgInts.len {k : IntKind} {w : World} {sv : Value} {zs : List Int} (h : ArgInts k w sv zs) : ∃ a c, sv = .slice a zs.length c := by
  rcases h with ⟨rfl, h⟩ | ⟨rfl, rfl⟩ | ⟨b, off, cap, rfl, _, _⟩
  · exact h
  · exact ⟨none, 0, rfl⟩
  · exact ⟨_, _, rfl⟩

theorem arg_ints {k : IntKind} {w : World} {a : Option Addr} {len cap : Nat} {zs : List Int}
    (h : (a = none ∧ len = 0 ∧ cap = 0 ∧ zs = []) ∨ ∃ x, a = some x ∧ len ≤ cap ∧ cap ≤ maxLen ∧ zs.length = cap ∧ (∀ i, i < zs.length → w.cell? (x.add i) = some (.int k (zs.getD i 0))) ∧ ∀ n ∈ zs, (Lit.int k n).wf = true) :
    ArgInts k w (.slice a len cap) (zs.take len) ∧ (zs.take len).length = len := by
  rcases h with ⟨rfl, rfl, rfl, rfl⟩ | ⟨x, rfl, hl, hm, hz, hc, _⟩
  · exact ⟨.inl ⟨rfl, _, _, rfl⟩, rfl⟩
  · have hlen : (zs.take len).length = len := by rw [List.length_take]; omega
    refine ⟨?_, hlen⟩
    by_cases h0 : len = 0
    · subst h0
      exact .inl ⟨rfl, _, _, rfl⟩
    · obtain ⟨b, off, spot⟩ := x
      have hs : spot = none := by simpa [Addr.add] using World.cell?_spot (hc 0 (by omega))
      subst hs
      unfold maxLen at hm
      refine .inr (.inr ⟨b, off, cap, by rw [hlen], by omega, fun i hi => ?_⟩)
      have := hc i (by omega)
      have e : ({ block := b, off := off, spot := none } : Addr).add i = ⟨b, off + i, none⟩ := by
        simp only [Addr.add]
        by_cases h : i = 0
        · subst h; rfl
        · rw [if_neg h]
      rw [e] at this
      rw [this]
      congr 2
      rw [List.getD_eq_getElem?_getD, List.getD_eq_getElem?_getD, List.getElem?_take, if_pos (by omega)]

theorem toints_arg (sv : Value) (zs : List Int) (w : World) (hs : ArgInts .i64 w sv zs) (hn : zs.length ≤ 1048576) :
    Calls Try.prog 11 #[sv] w (OwnRet 2 (zs.map (Value.int .i64)) w) := by
  rcases hs with ⟨rfl, a, c, rfl⟩ | hs
  · obtain ⟨i0, hi, hz0, hz1, hz2⟩ := info_parts info64
    go_enter Try.func11, Try.ntmps11
    go_wp2_with (at_make; refine wpList_make_full _ rfl _ _ 22 rfl w.heap.size 2 i0 (.int .i64 0) 1 Try.underlying22 hi hz0 hz1 _ _ _ _ 0 rfl rfl rfl rfl (by omega) (by unfold maxLen; omega) (Nat.le_refl _) ?_)
    intro w1 hown hg
    have hb : Below w.heap.size w w1 := (Below.refl _ _).grown hg (Nat.le_refl _) (fun k hk => by cases hk)
    have HO := Lib.hid hown
    have HB := Lib.hid hb
    clear hown hg hb
    go_wp2
    go_rounds 1
    go_ret
    have e : (madeCells #[Value.int .i64 0] 0).toList = ([] : List Value) := List.length_eq_zero_iff.1 (by have := HO.out.1; simpa using this)
    exact ⟨_, rfl, by have h := HO.out; rw [e] at h; exact h, HB.out⟩
  · exact toints_any sv zs w hs hn

/-- The copy, as a slice that reads as the numbers. -/
def CopyRet (zs : List Int) (w : World) (e : Ending) (w' : World) : Prop := ∃ v, e = .returned v ∧ IntsAre .i64 w' v zs ∧ Below w.heap.size w w'
theorem copy_any (sv : Value) (zs : List Int) (w : World) (hs : ArgInts .i64 w sv zs) (hn : zs.length ≤ 1048576) :
    Calls Try.prog 11 #[sv] w (CopyRet zs w) :=
  (toints_arg sv zs w hs hn).mono fun e w' ⟨v, he, ho, hb⟩ => ⟨v, he, ints_of_own ho (by simp; omega), hb⟩
end Go.Proofs.Ythggoboljkdldaa
