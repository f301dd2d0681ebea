/- Reading a list of numbers: the model. -/
import Derived.Test.YtlelcecbpahliaaGreatDoorSplit
namespace Go.Proofs.YtlelcecbpahliaaGreatDoor
open Go.ChangeShapes Go.WideShapes Go.ChangeAt Go.RowKit Pm

/-- Is a piece a number of the list? -/
def numOk (p : ByteArray) : Bool := canB p.data.toList && inB (-1000000000000) 1000000000000 [numR p.data.toList]
def numP (p : ByteArray) : Int := numR p.data.toList
def rlB (s : ByteArray) : Bool := decide (s.data.toList = [45]) || (decide ((cutS 44 s).length ≤ 64) && (cutS 44 s).all numOk)
def rlZ (s : ByteArray) : List Int := if s.data.toList = [45] then [] else if rlB s = true then (cutS 44 s).map numP else []
def intV (zs : List Int) : List Value := zs.map (Value.int .i64)
def RLRet (s : ByteArray) (w : World) (e : Ending) (w' : World) : Prop :=
  ∃ v, e = .returned (.tuple #[v, .bool (rlB s)]) ∧ w'.ownsRow w.heap.size 2 1 v (rlZ s).length (intV (rlZ s)) ∧ Below w.heap.size w w'

theorem rl_dash {s : ByteArray} (h : s.data.toList = [45]) : rlB s = true ∧ rlZ s = [] := by
  unfold rlZ rlB; rw [if_pos h, decide_eq_true h]; exact ⟨rfl, rfl⟩
theorem rl_no {s : ByteArray} (h : s.data.toList ≠ [45]) (h2 : (decide ((cutS 44 s).length ≤ 64) && (cutS 44 s).all numOk) = false) : rlB s = false ∧ rlZ s = [] := by
  have e : rlB s = false := by unfold rlB; rw [decide_eq_false h, h2]; rfl
  unfold rlZ; rw [if_neg h, e]; exact ⟨rfl, rfl⟩
theorem rl_yes {s : ByteArray} (h : s.data.toList ≠ [45]) (h2 : (cutS 44 s).length ≤ 64) (h3 : (cutS 44 s).all numOk = true) : rlB s = true ∧ rlZ s = (cutS 44 s).map numP := by
  have e : rlB s = true := by unfold rlB; rw [decide_eq_true h2, h3]; simp
  unfold rlZ; rw [if_neg h, e]; exact ⟨rfl, rfl⟩

theorem own_mono {w : World} {B B' : Nat} {E : TypeId} {v : Value} {n : Nat} {xs : List Value} (h : w.ownsRow B E 1 v n xs) (hB : B' ≤ B) : w.ownsRow B' E 1 v n xs := by
  refine ⟨h.1, ?_⟩
  rcases h.2 with h2 | ⟨g, cap, cur, h1, h3, h4⟩
  · exact .inl h2
  · exact .inr ⟨g, cap, cur, h1, Nat.le_trans hB h3, h4⟩
theorem own_none (w : World) (B : Nat) (E : TypeId) : w.ownsRow B E 1 (.slice none 0 0) 0 [] := ⟨rfl, .inl ⟨rfl, rfl⟩⟩
theorem rlret {s : ByteArray} {w w' : World} {v : Value} {b : Bool} {zs : List Int} {n : Nat} (h : rlB s = b ∧ rlZ s = zs) (ho : w'.ownsRow w.heap.size 2 1 v n (intV zs)) (hb : Below w.heap.size w w') : RLRet s w (.returned (.tuple #[v, .bool b])) w' := by
  obtain ⟨h1, h2⟩ := h
  refine ⟨v, by rw [h1], ?_, hb⟩
  rw [h2]
  have e : n = zs.length := by have := ho.1; simp [intV] at this; omega
  rw [← e]; exact ho

theorem intV_snoc (zs : List Int) (z : Int) : intV (zs ++ [z]) = intV zs ++ [.int .i64 z] := by simp [intV]
theorem introw_snoc {w : World} {B : Nat} {E : TypeId} {v : Value} {zs : List Int} {z : Int} {ys : List Int} (e : ys = zs ++ [z]) (h : w.ownsRow B E 1 v (zs.length + 1) (intV zs ++ [.int .i64 z])) :
    w.ownsRow B E 1 v ys.length (intV ys) := by
  subst e
  rw [intV_snoc, List.length_append, List.length_singleton]; exact h
theorem take_snoc' {α β : Type} (f : α → β) (l : List α) (k : Nat) (hk : k < l.length) : (l.take (k + 1)).map f = (l.take k).map f ++ [f l[k]] := by
  rw [List.take_succ_eq_append_getElem hk, List.map_append]; rfl
theorem dash_yes {s : ByteArray} (h : s.data.toList = [45]) : (s.toList == ([45] : List UInt8)) = true := by
  rw [beq_iff_eq, ByteArray.toList_eq]; exact h
theorem dash_no {s : ByteArray} (h : s.data.toList ≠ [45]) : (s.toList == ([45] : List UInt8)) = false := by
  rw [beq_eq_false_iff_ne, ByteArray.toList_eq]; exact h
theorem numOk_no {p : ByteArray} {ps : List ByteArray} (k : Nat) (hk : k < ps.length) (hp : p = ps[k]'hk) (h : numOk p = false) : ps.all numOk = false := by
  rw [List.all_eq_false]
  exact ⟨ps[k], List.getElem_mem hk, by rw [← hp, h]; simp⟩

end Go.Proofs.YtlelcecbpahliaaGreatDoor
