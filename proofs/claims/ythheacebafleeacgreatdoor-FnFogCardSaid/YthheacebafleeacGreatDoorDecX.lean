/- The decimal digits of a number, the last one first. No Go in sight. The decimal form of a number: the model's own digits. -/
import Derived.Lib.ItoaNum
import Derived.Lib.ItoaMem
import Derived.Test.YthheacebafleeacGreatDoorDiv
import Derived.LoopTactic
import Derived.Outline
import Derived.OwnWalk
import Derived.Laws.OwnMore
import Derived.Laws.IdiomStrings
import Derived.Lib.OwnKind
import Derived.Deep.AppendLies
namespace Go.Proofs.YthheacebafleeacGreatDoor.Pm
open Go

/-- The digits of u, the last one first; none of 0. -/
def low (u : Nat) : List UInt8 :=
  if h : u = 0 then [] else UInt8.ofNat (48 + u % 10) :: low (u / 10)
termination_by u
decreasing_by omega

theorem low_zero : low 0 = [] := by rw [low]; rfl
theorem low_pos {u : Nat} (h : u ≠ 0) : low u = UInt8.ofNat (48 + u % 10) :: low (u / 10) := by rw [low, dif_neg h]

theorem low_rev : ∀ (k u : Nat), u ≤ k → u ≠ 0 → (low u).reverse = Lib.decDigits u := by
  intro k
  induction k with
  | zero => intro u h h0; omega
  | succ k ih =>
    intro u h h0
    rw [low_pos h0, List.reverse_cons, Lib.decDigits]
    by_cases h10 : u < 10
    · rw [dif_pos h10, show u / 10 = 0 by omega, low_zero, show u % 10 = u by omega]; rfl
    · rw [dif_neg h10, ih (u / 10) (by omega) (by omega)]

theorem low_len : ∀ (k u : Nat), u < 2 ^ k → (low u).length ≤ k := by
  intro k
  induction k with
  | zero => intro u h; rw [show u = 0 by simpa using h, low_zero]; exact Nat.le_refl _
  | succ k ih =>
    intro u h
    by_cases h0 : u = 0
    · rw [h0, low_zero]; exact Nat.zero_le _
    · rw [low_pos h0, List.length_cons]
      have := ih (u / 10) (by rw [Nat.pow_succ] at h; omega)
      omega

/-- All digits, the last one first, the sign behind. -/
def back (n : Int) : List UInt8 := if n < 0 then low n.natAbs ++ [45] else low n.natAbs

theorem back_rev (n : Int) (h : n ≠ 0) : (back n).reverse = Lib.itoa n := by
  unfold back Lib.itoa
  by_cases hn : n < 0
  · rw [if_pos hn, if_pos hn, List.reverse_append, low_rev _ _ (Nat.le_refl _) (by omega)]; rfl
  · rw [if_neg hn, if_neg hn, low_rev _ _ (Nat.le_refl _) (by omega), show n.natAbs = n.toNat by omega]

theorem digit_val (u : Nat) : ((UInt8.ofNat (48 + u % 10)).toNat : Int) = 48 + (u % 10 : Nat) := by
  rw [UInt8.toNat_ofNat']
  omega
end Go.Proofs.YthheacebafleeacGreatDoor.Pm
namespace Go.Proofs.YthheacebafleeacGreatDoor
open Go.ChangeShapes Go.WideShapes Go.ChangeAt Go.RowKit Pm

theorem infoByte : (Tryz.prog.info? 5).map (fun i => (i.zero, i.size, i.bytes)) = some (some (.int .u8 0), 1, 1) := by kernel_rfl

/-- One byte more behind an owned row of bytes. -/
theorem row_snoc {w : World} {B : Nat} {E : TypeId} {v : Value} {ds : List UInt8} {c : UInt8} {x : Int} (hx : x = (c.toNat : Int)) (h : w.ownsRow B E 1 v (ds.length + 1) (Lib.byteCells ds ++ [.int .u8 x])) :
    w.ownsRow B E 1 v (ds ++ [c]).length (Lib.byteCells (ds ++ [c])) := by
  subst hx
  have e1 : (ds ++ [c]).length = ds.length + 1 := by simp
  have e2 : Lib.byteCells (ds ++ [c]) = Lib.byteCells ds ++ [.int .u8 (c.toNat : Int)] := by simp [Lib.byteCells]
  rw [e1, e2]; exact h

/-- The world behind an append of one new cell to a row of the call's own. -/
theorem below_app {B : Nat} {w wr w1 : World} {o : Obj} {E : TypeId} {v : Value} {n : Nat} {xs : List Value} (hb : Below B w wr) (hB : B ≤ w.heap.size) (hown : wr.ownsRow B E 1 v n xs) (hg : (wr.alloc o).grownBy w1 v.ownBlock) : Below B w w1 :=
  (hb.alloc (Nat.le_trans hB hb.size) o).grown hg (by have := hb.size; simp; omega) (fun k hk => (hown.lt k hk).1)

theorem app_cells (wr : World) (x : Value) (T : TypeId) : ∀ j u, [x][j]? = some u → (wr.alloc (.cells #[x] T)).cell? ((⟨wr.heap.size, 0, none⟩ : Addr).add j) = some u := by
  intro j u hj
  match j, hj with
  | 0, hj => simp at hj; subst hj; simp [Addr.add]

theorem low_step (z : Int) (ds l : List UInt8) (hz : z.natAbs ≠ 0) (q : Int) (hq : q.natAbs = z.natAbs / 10) (h : ds ++ low z.natAbs = l) : (ds ++ [UInt8.ofNat (48 + z.natAbs % 10)]) ++ low q.natAbs = l := by
  rw [hq, ← h, low_pos hz, List.append_assoc]; rfl



end Go.Proofs.YthheacebafleeacGreatDoor
