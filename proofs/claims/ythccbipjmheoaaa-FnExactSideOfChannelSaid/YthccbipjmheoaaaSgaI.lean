/- The segment at a distance: the program's. -/
import Derived.Test.YthccbipjmheoaaaLenI
namespace Go.Proofs.Ythccbipjmheoaaa
open Go.ChangeShapes Go.WideShapes Go.ChangeAt Go.RowKit Go.Shelf Pm
attribute [local go_sem] Oper.semAt_some

theorem BlkAt.keep {X Y : World} {row : Option Nat} {B : Nat} {cs : Array Value} {t : TypeId} (h : BlkAt X B cs t) (hg : X.grownBy Y row) (hr : ∀ r, row = some r → ∃ o : Obj, X.heap[r]? = some o ∧ o.isCells = false) : BlkAt Y B cs t :=
  BlkAt.own B t (fun (_ : Unit) => cs) () X Y row h hg hr
theorem BlkAt.alloc {W : World} {B : Nat} {cs : Array Value} {t : TypeId} (h : BlkAt W B cs t) (o : Obj) : BlkAt (W.alloc o) B cs t := (Below.heap_alloc _ _ _ h.lt).trans h
theorem BlkAt.below {W W' : World} {B : Nat} {cs : Array Value} {t : TypeId} (h : BlkAt W B cs t) (hb : Below W.heap.size W W') : BlkAt W' B cs t := (hb.block B h.lt).trans h
theorem BlkAt.frozen {W : World} {B : Nat} {cs : Array Value} {t : TypeId} (h : BlkAt W B cs t) (j : Nat) : W.frozen? ⟨B, j, none⟩ = false := by
  unfold BlkAt at h
  simp [World.frozen?, h]
theorem BlkAt.set {W : World} {B : Nat} {cs : Array Value} {t : TypeId} (h : BlkAt W B cs t) (j : Nat) (v : Value) : BlkAt (W.setCell ⟨B, j, none⟩ v) B (cs.setIfInBounds j v) t := by
  obtain ⟨hlt, hk⟩ := Array.getElem?_eq_some_iff.1 h
  show (W.heap.modify B _)[B]? = _
  rw [Array.getElem?_eq_getElem (by rw [Array.size_modify]; exact hlt), Array.getElem_modify_self, hk]
  rfl
theorem BlkAt.other {W : World} {B B' : Nat} {cs : Array Value} {t : TypeId} (h : BlkAt W B cs t) (hne : B ≠ B') (j : Nat) (v : Value) : BlkAt (W.setCell ⟨B', j, none⟩ v) B cs t :=
  (Below.heap_setCell _ _ _ _ (fun e => hne e)).trans h
section
variable {W : World} {B : Nat} {x0 x1 x2 x3 x4 x5 : Value}
theorem six_keeps : KeepsOthers W ((((((W.setCell ⟨B, 0, none⟩ x0).setCell ⟨B, 1, none⟩ x1).setCell ⟨B, 2, none⟩ x2).setCell ⟨B, 3, none⟩ x3).setCell ⟨B, 4, none⟩ x4).setCell ⟨B, 5, none⟩ x5) :=
  (((((KeepsOthers.setCell _ _ _).trans (KeepsOthers.setCell _ _ _)).trans (KeepsOthers.setCell _ _ _)).trans (KeepsOthers.setCell _ _ _)).trans (KeepsOthers.setCell _ _ _)).trans (KeepsOthers.setCell _ _ _)
theorem six_keepc : KeepC B W ((((((W.setCell ⟨B, 0, none⟩ x0).setCell ⟨B, 1, none⟩ x1).setCell ⟨B, 2, none⟩ x2).setCell ⟨B, 3, none⟩ x3).setCell ⟨B, 4, none⟩ x4).setCell ⟨B, 5, none⟩ x5) :=
  (((((KeepC.put _ _ _).t (KeepC.put _ _ _)).t (KeepC.put _ _ _)).t (KeepC.put _ _ _)).t (KeepC.put _ _ _)).t (KeepC.put _ _ _)
theorem six_below {n : Nat} (h : n ≤ B) {w0 : World} (hb : Below n w0 W) : Below n w0 ((((((W.setCell ⟨B, 0, none⟩ x0).setCell ⟨B, 1, none⟩ x1).setCell ⟨B, 2, none⟩ x2).setCell ⟨B, 3, none⟩ x3).setCell ⟨B, 4, none⟩ x4).setCell ⟨B, 5, none⟩ x5) :=
  (((((hb.setCell (p := ⟨B, 0, none⟩) h _).setCell (p := ⟨B, 1, none⟩) h _).setCell (p := ⟨B, 2, none⟩) h _).setCell (p := ⟨B, 3, none⟩) h _).setCell (p := ⟨B, 4, none⟩) h _).setCell (p := ⟨B, 5, none⟩) h _
theorem BlkAt.six {a b c e x y : Value} {t : TypeId} (h : BlkAt W B #[a, b, c, e, x, y] t) : BlkAt ((((((W.setCell ⟨B, 0, none⟩ x0).setCell ⟨B, 1, none⟩ x1).setCell ⟨B, 2, none⟩ x2).setCell ⟨B, 3, none⟩ x3).setCell ⟨B, 4, none⟩ x4).setCell ⟨B, 5, none⟩ x5) B #[x0, x1, x2, x3, x4, x5] t :=
  (((((h.set 0 _).set 1 _).set 2 _).set 3 _).set 4 _).set 5 _
theorem BlkAt.six_other {B' : Nat} {cs : Array Value} {t : TypeId} (h : BlkAt W B' cs t) (hne : B' ≠ B) : BlkAt ((((((W.setCell ⟨B, 0, none⟩ x0).setCell ⟨B, 1, none⟩ x1).setCell ⟨B, 2, none⟩ x2).setCell ⟨B, 3, none⟩ x3).setCell ⟨B, 4, none⟩ x4).setCell ⟨B, 5, none⟩ x5) B' cs t :=
  (((((h.other hne _ _).other hne _ _).other hne _ _).other hne _ _).other hne _ _).other hne _ _
end
/-- The six cells of a segment. -/
noncomputable def segC (ps : Pts) (i : Nat) : Array Value := #[.int .i64 (ps.getD i (0, 0)).1, .int .i64 (ps.getD i (0, 0)).2, .int .i64 (ps.getD (i + 1) (0, 0)).1, .int .i64 (ps.getD (i + 1) (0, 0)).2, .int .i64 (begV ps i), .int .i64 (dL ps i)]
/-- The first segment that reaches a distance. -/
def SegIx (ps : Pts) (d : Int) (i : Nat) : Prop := i + 1 < ps.length ∧ d ≤ begV ps (i + 1) ∧ ∀ j, j < i → begV ps (j + 1) < d
theorem SegIx.one {ps : Pts} {d : Int} {i j : Nat} (h : SegIx ps d i) (k : SegIx ps d j) : i = j := by
  rcases Nat.lt_trichotomy i j with c | c | c
  · have := k.2.2 i c
    have := h.2.1
    omega
  · exact c
  · have := h.2.2 j c
    have := k.2.1
    omega

end Go.Proofs.Ythccbipjmheoaaa
