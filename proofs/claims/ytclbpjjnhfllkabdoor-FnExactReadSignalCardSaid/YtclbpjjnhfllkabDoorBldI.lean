/- A builder of texts of the call's own. -/
import Derived.Test.YtclbpjjnhfllkabDoorKit
import Derived.Test.YtclbpjjnhfllkabDoorLays
import Derived.Shelf.Strings.OnBuilder
namespace Go.Proofs.YtclbpjjnhfllkabDoor
open Go.ChangeShapes Go.WideShapes Go.ChangeAt Go.RowKit Pm

/-- A builder of the call's own that holds some bytes. -/
def Bld (B b : Nat) (l : List UInt8) (w : World) : Prop := Lib.IsBuilder (Tryd.lays156_ren.t 72) (Tryd.lays156_ren.t 5) B b (Lib.byteCells l) w
theorem Bld.below {B b : Nat} {l : List UInt8} {w w' : World} (h : Bld B b l w) (hb : Below w.heap.size w w') : Bld B b l w' := by
  have key : ∀ p, Lib.BuilderAt (Tryd.lays156_ren.t 72) (Tryd.lays156_ren.t 5) B b p (Lib.byteCells l) w → Lib.BuilderAt (Tryd.lays156_ren.t 72) (Tryd.lays156_ren.t 5) B b p (Lib.byteCells l) w' := by
    intro p hp
    have hlt := hp.lt
    obtain ⟨h1, v, h2, h3, h4⟩ := hp
    refine ⟨h1, v, by rw [hb.block b hlt]; exact h2, ?_, h4⟩
    refine ⟨h3.1, ?_⟩
    rcases h3.2 with k2 | ⟨g, cap, cur, k1, k3, k4, k5⟩
    · exact .inl k2
    · refine .inr ⟨g, cap, cur, k1, k3, ?_, k5⟩
      have hlt : g < w.heap.size := by
        rcases Nat.lt_or_ge g w.heap.size with h' | h'
        · exact h'
        · rw [Array.getElem?_eq_none h'] at k4; cases k4
      rw [hb.block g hlt]; exact k4
  rcases h with h | h
  · exact .inl (key _ h)
  · exact .inr (key _ h)
theorem Bld.new (w : World) : Bld w.heap.size w.heap.size [] (w.alloc (.cells #[.pointer none, .slice none 0 0] 87)) := Lib.fresh_isBuilder _ _ w
theorem bwrite_any (B b : Nat) (l m : List UInt8) (w : World) (h : Bld B b l w) (hl : l.length + m.length ≤ 4194304) (hB : B ≤ w.heap.size) :
    Calls Tryd.prog 67 #[.pointer (some ⟨b, 0, none⟩), .string ⟨m.toArray⟩] w fun e w' => (∃ v, e = .returned v) ∧ Bld B b (l ++ m) w' ∧ Below B w w' := by
  have hk := Any.Builder_WriteString (ρ := Tryd.lays156_ren) { Tryd.lays156 with } Tryd.Builder_Extra_156 B b (Lib.byteCells l) ⟨m.toArray⟩ w h (by
    have h1 : (Lib.byteCells l).length = l.length := by simp [Lib.byteCells]
    have h2 : (⟨m.toArray⟩ : ByteArray).size = m.length := by simp [ByteArray.size]
    omega) hB
  refine hk.mono fun e w' ⟨he, hb, hw⟩ => ⟨⟨_, he⟩, ?_, hw⟩
  have e1 : Lib.byteCells l ++ Lib.strCells ⟨m.toArray⟩ = Lib.byteCells (l ++ m) := by simp [Lib.byteCells, Lib.strCells]
  rw [e1] at hb
  exact .inr hb
theorem bstring_any (B b : Nat) (l : List UInt8) (w : World) (h : Bld B b l w) (hB : B ≤ w.heap.size) :
    Calls Tryd.prog 68 #[.pointer (some ⟨b, 0, none⟩)] w fun e w' => e = .returned (.string ⟨l.toArray⟩) ∧ Below B w w' :=
  Any.Builder_String_any (ρ := Tryd.lays156_ren) { Tryd.lays156 with } Tryd.Builder_Extra_156 B b l w h hB
end Go.Proofs.YtclbpjjnhfllkabDoor
