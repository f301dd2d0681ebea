/- The decimal form of a number: the model's own digits. -/
import Derived.Test.YtlelcecbpahliaaGreatDoorDiv
import Derived.Test.YtlelcecbpahliaaGreatDoorDecM
import Derived.LoopTactic
import Derived.Outline
import Derived.OwnWalk
import Derived.Laws.OwnMore
import Derived.Laws.IdiomStrings
import Derived.Lib.OwnKind
import Derived.Deep.AppendLies
namespace Go.Proofs.YtlelcecbpahliaaGreatDoor
open Go.ChangeShapes Go.WideShapes Go.ChangeAt Go.RowKit Pm

theorem infoByte : (Tryz.prog.info? 5).map (fun i => (i.zero, i.size, i.bytes)) = some (some (.int .u8 0), 1, 1) := by kernel_rfl

/-- One byte more behind an owned row of bytes. -/
theorem row_snoc {w : World} {B : Nat} {E : TypeId} {v : Value} {ds : List UInt8} {c : UInt8} {x : Int} (hx : x = (c.toNat : Int)) (h : w.ownsRow B E 1 v (ds.length + 1) (Lib.byteCells ds ++ [.int .u8 x])) :
    w.ownsRow B E 1 v (ds ++ [c]).length (Lib.byteCells (ds ++ [c])) := by
  subst hx
  have e1 : (ds ++ [c]).length = ds.length + 1 := by simp
  have e2 : Lib.byteCells (ds ++ [c]) = Lib.byteCells ds ++ [.int .u8 (c.toNat : Int)] := by simp [Lib.byteCells]
  rw [e1, e2]; exact h

/-- The world behind an append of one new cell to a row of the call's own. -/
theorem below_app {B : Nat} {w wr w1 : World} {o : Obj} {E : TypeId} {v : Value} {n : Nat} {xs : List Value} (hb : Below B w wr) (hB : B ≤ w.heap.size) (hown : wr.ownsRow B E 1 v n xs) (hg : (wr.alloc o).grownBy w1 v.ownBlock) : Below B w w1 :=
  (hb.alloc (Nat.le_trans hB hb.size) o).grown hg (by have := hb.size; simp; omega) (fun k hk => (hown.lt k hk).1)

theorem app_cells (wr : World) (x : Value) (T : TypeId) : ∀ j u, [x][j]? = some u → (wr.alloc (.cells #[x] T)).cell? ((⟨wr.heap.size, 0, none⟩ : Addr).add j) = some u := by
  intro j u hj
  match j, hj with
  | 0, hj => simp at hj; subst hj; simp [Addr.add]

theorem low_step (z : Int) (ds l : List UInt8) (hz : z.natAbs ≠ 0) (q : Int) (hq : q.natAbs = z.natAbs / 10) (h : ds ++ low z.natAbs = l) : (ds ++ [UInt8.ofNat (48 + z.natAbs % 10)]) ++ low q.natAbs = l := by
  rw [hq, ← h, low_pos hz, List.append_assoc]; rfl



end Go.Proofs.YtlelcecbpahliaaGreatDoor
