/- Dividing a text at a byte: the model's function. Reading a list of numbers: the model. Reading a list of numbers: the program's. -/
import Derived.Test.YthheacebafleeacGreatDoorSplitM
import Derived.Test.YthheacebafleeacGreatDoorListI
import Derived.Test.YthheacebafleeacGreatDoorNumI
namespace Go.Proofs.YthheacebafleeacGreatDoor
open Go.ChangeShapes Go.WideShapes Go.ChangeAt Go.RowKit Pm

theorem CutInv.bound {c : UInt8} {s : ByteArray} {done : List ByteArray} {fr i : Nat} (h : CutInv c s done fr i) : done.length ≤ s.size := by
  have h1 := cutS_le c s
  have h2 : (cutS c (s.extract fr s.size)).length ≠ 0 := by
    unfold cutS; rw [List.length_map]
    intro e
    exact cutAt_ne c _ (List.length_eq_zero_iff.1 e)
  rw [h.2.2.1, List.length_append] at h1
  omega

/-- The strings of a list, as values. -/
def strV (ps : List ByteArray) : List Value := ps.map Value.string
theorem strV_len (ps : List ByteArray) : (strV ps).length = ps.length := by simp [strV]
theorem strV_snoc (ps : List ByteArray) (p : ByteArray) : strV (ps ++ [p]) = strV ps ++ [.string p] := by simp [strV]
theorem strrow_snoc {w : World} {B : Nat} {E : TypeId} {v : Value} {ps : List ByteArray} {p : ByteArray} (h : w.ownsRow B E 1 v (ps.length + 1) (strV ps ++ [.string p])) :
    w.ownsRow B E 1 v (ps ++ [p]).length (strV (ps ++ [p])) := by
  rw [strV_snoc, List.length_append, List.length_singleton]; exact h
theorem own_len {w : World} {B : Nat} {E : TypeId} {v : Value} {n : Nat} {ps qs : List ByteArray} (h : w.ownsRow B E 1 v n (strV ps)) (e : qs = ps) : w.ownsRow B E 1 v (strV qs).length (strV qs) := by
  subst e
  have h1 : n = (strV qs).length := by have := h.1; simp at this; omega
  rw [← h1]; exact h

theorem byte_ne {b c : UInt8} (h : ((b.toNat : Int) == (c.toNat : Int)) = false) : b ≠ c := by
  intro e; subst e; simp at h
theorem byte_same {b c : UInt8} (h : ((b.toNat : Int) == (c.toNat : Int)) = true) : b = c := by
  rw [beq_iff_eq] at h
  exact UInt8.toNat_inj.1 (by omega)

end Go.Proofs.YthheacebafleeacGreatDoor
namespace Go.Proofs.YthheacebafleeacGreatDoor
open Go.ChangeShapes Go.WideShapes Go.ChangeAt Go.RowKit Pm

/-- Is a piece a number of the list? -/
def numOk (p : ByteArray) : Bool := canB p.data.toList && inB (-1000000000000) 1000000000000 [numR p.data.toList]
def numP (p : ByteArray) : Int := numR p.data.toList
def rlB (s : ByteArray) : Bool := decide (s.data.toList = [45]) || (decide ((cutS 44 s).length ≤ 64) && (cutS 44 s).all numOk)
def rlZ (s : ByteArray) : List Int := if s.data.toList = [45] then [] else if rlB s = true then (cutS 44 s).map numP else []
def intV (zs : List Int) : List Value := zs.map (Value.int .i64)
def RLRet (s : ByteArray) (w : World) (e : Ending) (w' : World) : Prop :=
  ∃ v, e = .returned (.tuple #[v, .bool (rlB s)]) ∧ w'.ownsRow w.heap.size 2 1 v (rlZ s).length (intV (rlZ s)) ∧ Below w.heap.size w w'

theorem rl_dash {s : ByteArray} (h : s.data.toList = [45]) : rlB s = true ∧ rlZ s = [] := by
  unfold rlZ rlB; rw [if_pos h, decide_eq_true h]; exact ⟨rfl, rfl⟩
theorem rl_no {s : ByteArray} (h : s.data.toList ≠ [45]) (h2 : (decide ((cutS 44 s).length ≤ 64) && (cutS 44 s).all numOk) = false) : rlB s = false ∧ rlZ s = [] := by
  have e : rlB s = false := by unfold rlB; rw [decide_eq_false h, h2]; rfl
  unfold rlZ; rw [if_neg h, e]; exact ⟨rfl, rfl⟩
theorem rl_yes {s : ByteArray} (h : s.data.toList ≠ [45]) (h2 : (cutS 44 s).length ≤ 64) (h3 : (cutS 44 s).all numOk = true) : rlB s = true ∧ rlZ s = (cutS 44 s).map numP := by
  have e : rlB s = true := by unfold rlB; rw [decide_eq_true h2, h3]; simp
  unfold rlZ; rw [if_neg h, e]; exact ⟨rfl, rfl⟩

theorem own_mono {w : World} {B B' : Nat} {E : TypeId} {v : Value} {n : Nat} {xs : List Value} (h : w.ownsRow B E 1 v n xs) (hB : B' ≤ B) : w.ownsRow B' E 1 v n xs := by
  refine ⟨h.1, ?_⟩
  rcases h.2 with h2 | ⟨g, cap, cur, h1, h3, h4⟩
  · exact .inl h2
  · exact .inr ⟨g, cap, cur, h1, Nat.le_trans hB h3, h4⟩
theorem own_none (w : World) (B : Nat) (E : TypeId) : w.ownsRow B E 1 (.slice none 0 0) 0 [] := ⟨rfl, .inl ⟨rfl, rfl⟩⟩
theorem rlret {s : ByteArray} {w w' : World} {v : Value} {b : Bool} {zs : List Int} {n : Nat} (h : rlB s = b ∧ rlZ s = zs) (ho : w'.ownsRow w.heap.size 2 1 v n (intV zs)) (hb : Below w.heap.size w w') : RLRet s w (.returned (.tuple #[v, .bool b])) w' := by
  obtain ⟨h1, h2⟩ := h
  refine ⟨v, by rw [h1], ?_, hb⟩
  rw [h2]
  have e : n = zs.length := by have := ho.1; simp [intV] at this; omega
  rw [← e]; exact ho

theorem intV_snoc (zs : List Int) (z : Int) : intV (zs ++ [z]) = intV zs ++ [.int .i64 z] := by simp [intV]
theorem introw_snoc {w : World} {B : Nat} {E : TypeId} {v : Value} {zs : List Int} {z : Int} {ys : List Int} (e : ys = zs ++ [z]) (h : w.ownsRow B E 1 v (zs.length + 1) (intV zs ++ [.int .i64 z])) :
    w.ownsRow B E 1 v ys.length (intV ys) := by
  subst e
  rw [intV_snoc, List.length_append, List.length_singleton]; exact h
theorem take_snoc' {α β : Type} (f : α → β) (l : List α) (k : Nat) (hk : k < l.length) : (l.take (k + 1)).map f = (l.take k).map f ++ [f l[k]] := by
  rw [List.take_succ_eq_append_getElem hk, List.map_append]; rfl
theorem dash_yes {s : ByteArray} (h : s.data.toList = [45]) : (s.toList == ([45] : List UInt8)) = true := by
  rw [beq_iff_eq, ByteArray.toList_eq]; exact h
theorem dash_no {s : ByteArray} (h : s.data.toList ≠ [45]) : (s.toList == ([45] : List UInt8)) = false := by
  rw [beq_eq_false_iff_ne, ByteArray.toList_eq]; exact h
theorem numOk_no {p : ByteArray} {ps : List ByteArray} (k : Nat) (hk : k < ps.length) (hp : p = ps[k]'hk) (h : numOk p = false) : ps.all numOk = false := by
  rw [List.all_eq_false]
  exact ⟨ps[k], List.getElem_mem hk, by rw [← hp, h]; simp⟩

end Go.Proofs.YthheacebafleeacGreatDoor
namespace Go.Proofs.YthheacebafleeacGreatDoor
open Go.ChangeShapes Go.WideShapes Go.ChangeAt Go.RowKit Pm

/-- The library's own variable holds some number. -/
def LenAt (w : World) : Prop := ∃ m, w.cell? ⟨Tryz.laysM146_ren.g 1, 0, none⟩ = some (.int .i64 m)
theorem LenAt.below {w w' : World} (h : LenAt w) (hb : Below w.heap.size w w') : LenAt w' := by
  obtain ⟨m, hm⟩ := h
  exact ⟨m, cell_below hm hb⟩
theorem len_of {w : World} (h : w.ShapedOpen Tryz.prog) : LenAt w := Tryz.laysM146.s1_3 w h

theorem split_any (s : ByteArray) (c : UInt8) (w : World) (hs : s.size ≤ 1048576) (hl : LenAt w) :
    Calls Tryz.prog 23 #[.string s, .string ⟨#[c]⟩] w (OwnRet 9 (strV (cutS c s)) w) := by
  obtain ⟨m, hm⟩ := hl
  have h := Any.strings_Split { Tryz.laysM146 with } Tryz.laysM146.i9 s ⟨#[c]⟩ m w (by omega) hm (Nat.le_refl 1)
  refine h.mono fun e w' ⟨he, hw⟩ => ?_
  rw [splitB_cut] at hw
  rw [← cutS_len] at he
  have hle := cutS_le c s
  have hsz : (strV (cutS c s)).toArray.size = (cutS c s).length := by simp [strV]
  refine ⟨_, he, ?_, by rw [hw]; exact (Below.refl _ _).alloc (Nat.le_refl _) _⟩
  rw [hw, strV_len]
  exact World.ownsRow_lit w (strV (cutS c s)).toArray (cutS c s).length (Nat.le_refl _) (by unfold maxLen; omega) (by simp [strV])

end Go.Proofs.YthheacebafleeacGreatDoor
