/- The law's helpers on slices of numbers: copies, comparison. -/
import Derived.Test.YtlelcecbpahliaaGreatDoorInts
import Derived.OwnWalk
import Derived.Laws.OwnMore
import Derived.Deep.AppendLies
import Derived.WalkSmall
import Derived.Outline
namespace Go.Proofs.YtlelcecbpahliaaGreatDoor
open Go.ChangeShapes Go.WideShapes Go.ChangeAt Go.RowKit Pm

theorem info64 : (Tryz.prog.info? 2).map (fun i => (i.zero, i.size, i.bytes)) = some (some (.int .i64 0), 1, 8) := by kernel_rfl

/-- An owned row of numbers reads as them. -/
theorem ints_of_own {w : World} {B : Nat} {T : TypeId} {k : IntKind} {v : Value} {n : Nat} {zs : List Int} (h : w.ownsRow B T 1 v n (zs.map (Value.int k))) (hm : n ≤ 9223372036854775807) : IntsAre k w v zs := by
  have hl : zs.length = n := by have := h.1; simpa using this
  subst hl
  by_cases h0 : zs.length = 0
  · rcases h.2 with ⟨e1, _⟩ | ⟨g, cap, cur, e1, _⟩
    · exact .inl ⟨by rw [e1], List.length_eq_zero_iff.1 h0⟩
    · exact .inr ⟨g, 0, cap, e1, hm, fun i hi => by omega⟩
  · obtain ⟨g, cap, rfl, _, _⟩ := h.form (by omega)
    refine .inr ⟨g, 0, cap, rfl, hm, fun i hi => ?_⟩
    rw [Nat.zero_add, h.cellAt i (by omega)]
    simp [hi]

/-- What a row that a call has made holds, and what the world is behind it. -/
def OwnRet (T : TypeId) (xs : List Value) (w : World) (e : Ending) (w' : World) : Prop :=
  ∃ v, e = .returned v ∧ w'.ownsRow w.heap.size T 1 v xs.length xs ∧ Below w.heap.size w w'

/-- An owned row below the heap's size stays while a call makes blocks of its own. -/
theorem own_below {w w' : World} {B : Nat} {T : TypeId} {v : Value} {n : Nat} {xs : List Value} (h : w.ownsRow B T 1 v n xs) (hb : Below w.heap.size w w') : w'.ownsRow B T 1 v n xs := by
  refine ⟨h.1, ?_⟩
  rcases h.2 with h2 | ⟨g, cap, cur, h1, h3, h4, h5⟩
  · exact .inl h2
  · refine .inr ⟨g, cap, cur, h1, h3, ?_, h5⟩
    have hlt : g < w.heap.size := by
      rcases Nat.lt_or_ge g w.heap.size with h' | h'
      · exact h'
      · rw [Array.getElem?_eq_none h'] at h4; cases h4
    rw [hb.block g hlt]; exact h4

/-- So far k cells of a row are these. -/
def Upto (xs : List Value) (k : Nat) (ys : List Value) : Prop := xs.length = ys.length ∧ ∀ j, j < k → xs[j]? = ys[j]?
theorem Upto.step {xs ys : List Value} {k : Nat} (h : Upto xs k ys) (hk : k < ys.length) {u : Value} (hu : ys[k]? = some u) : Upto (xs.set k u) (k + 1) ys := by
  refine ⟨by simpa using h.1, fun j hj => ?_⟩
  rw [List.getElem?_set]
  by_cases e : k = j
  · subst e
    rw [if_pos rfl, if_pos (by rw [h.1]; exact hk), hu]
  · rw [if_neg e]; exact h.2 j (by omega)
theorem Upto.all {xs ys : List Value} (h : Upto xs ys.length ys) : xs = ys := by
  apply List.ext_getElem?
  intro j
  by_cases hj : j < ys.length
  · exact h.2 j hj
  · rw [List.getElem?_eq_none (by rw [h.1]; omega), List.getElem?_eq_none (by omega)]


end Go.Proofs.YtlelcecbpahliaaGreatDoor
