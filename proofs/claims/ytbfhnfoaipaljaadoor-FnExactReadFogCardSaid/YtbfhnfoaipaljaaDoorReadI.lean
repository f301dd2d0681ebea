/- Reading a list of numbers: the program's. -/
import Derived.Test.YtbfhnfoaipaljaaDoorReadS
import Derived.Test.YtbfhnfoaipaljaaDoorNumI
namespace Go.Proofs.YtbfhnfoaipaljaaDoor
open Go.ChangeShapes Go.WideShapes Go.ChangeAt Go.RowKit Pm

/-- The library's own variable holds some number. -/
def LenAt (w : World) : Prop := ∃ m, w.cell? ⟨Tryd.laysM146_ren.g 1, 0, none⟩ = some (.int .i64 m)
theorem LenAt.below {w w' : World} (h : LenAt w) (hb : Below w.heap.size w w') : LenAt w' := by
  obtain ⟨m, hm⟩ := h
  exact ⟨m, cell_below hm hb⟩
theorem len_of {w : World} (h : w.ShapedOpen Tryd.prog) : LenAt w := Tryd.laysM146.s1_3 w h

theorem split_any (s : ByteArray) (c : UInt8) (w : World) (hs : s.size ≤ 1048576) (hl : LenAt w) :
    Calls Tryd.prog 84 #[.string s, .string ⟨#[c]⟩] w (OwnRet 9 (strV (cutS c s)) w) := by
  obtain ⟨m, hm⟩ := hl
  have h := Any.strings_Split { Tryd.laysM146 with } Tryd.laysM146.i9 s ⟨#[c]⟩ m w (by omega) hm (Nat.le_refl 1)
  refine h.mono fun e w' ⟨he, hw⟩ => ?_
  rw [splitB_cut] at hw
  rw [← cutS_len] at he
  have hle := cutS_le c s
  have hsz : (strV (cutS c s)).toArray.size = (cutS c s).length := by simp [strV]
  refine ⟨_, he, ?_, by rw [hw]; exact (Below.refl _ _).alloc (Nat.le_refl _) _⟩
  rw [hw, strV_len]
  exact World.ownsRow_lit w (strV (cutS c s)).toArray (cutS c s).length (Nat.le_refl _) (by unfold maxLen; omega) (by simp [strV])

end Go.Proofs.YtbfhnfoaipaljaaDoor
