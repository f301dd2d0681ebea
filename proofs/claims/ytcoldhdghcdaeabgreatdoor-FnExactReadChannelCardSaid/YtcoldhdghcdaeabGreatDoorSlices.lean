/- The law's helpers on slices of numbers: copies, comparison. -/
import Derived.Test.YtcoldhdghcdaeabGreatDoorInts
import Derived.OwnWalk
import Derived.Laws.OwnMore
import Derived.Deep.AppendLies
import Derived.WalkSmall
import Derived.Outline
namespace Go.Proofs.YtcoldhdghcdaeabGreatDoor
open Go.ChangeShapes Go.WideShapes Go.ChangeAt Go.RowKit Pm

theorem info64 : (Tryz.prog.info? 2).map (fun i => (i.zero, i.size, i.bytes)) = some (some (.int .i64 0), 1, 8) := by kernel_rfl

/-- An owned row of numbers reads as them. -/
theorem ints_of_own {w : World} {B : Nat} {T : TypeId} {k : IntKind} {v : Value} {n : Nat} {zs : List Int} (h : w.ownsRow B T 1 v n (zs.map (Value.int k))) (hm : n ≤ 9223372036854775807) : IntsAre k w v zs := by
  have hl : zs.length = n := by have := h.1; simpa using this
  subst hl
  by_cases h0 : zs.length = 0
  · rcases h.2 with ⟨e1, _⟩ | ⟨g, cap, cur, e1, _⟩
    · exact .inl ⟨by rw [e1], List.length_eq_zero_iff.1 h0⟩
    · exact .inr ⟨g, 0, cap, e1, hm, fun i hi => by omega⟩
  · obtain ⟨g, cap, rfl, _, _⟩ := h.form (by omega)
    refine .inr ⟨g, 0, cap, rfl, hm, fun i hi => ?_⟩
    rw [Nat.zero_add, h.cellAt i (by omega)]
    simp [hi]

/-- What a row that a call has made holds, and what the world is behind it. -/
def OwnRet (T : TypeId) (xs : List Value) (w : World) (e : Ending) (w' : World) : Prop :=
  ∃ v, e = .returned v ∧ w'.ownsRow w.heap.size T 1 v xs.length xs ∧ Below w.heap.size w w'

/-- An owned row below the heap's size stays while a call makes blocks of its own. -/
theorem own_below {w w' : World} {B : Nat} {T : TypeId} {v : Value} {n : Nat} {xs : List Value} (h : w.ownsRow B T 1 v n xs) (hb : Below w.heap.size w w') : w'.ownsRow B T 1 v n xs := by
  refine ⟨h.1, ?_⟩
  rcases h.2 with h2 | ⟨g, cap, cur, h1, h3, h4, h5⟩
  · exact .inl h2
  · refine .inr ⟨g, cap, cur, h1, h3, ?_, h5⟩
    have hlt : g < w.heap.size := by
      rcases Nat.lt_or_ge g w.heap.size with h' | h'
      · exact h'
      · rw [Array.getElem?_eq_none h'] at h4; cases h4
    rw [hb.block g hlt]; exact h4

/-- So far k cells of a row are these. -/
def Upto (xs : List Value) (k : Nat) (ys : List Value) : Prop := xs.length = ys.length ∧ ∀ j, j < k → xs[j]? = ys[j]?
theorem Upto.step {xs ys : List Value} {k : Nat} (h : Upto xs k ys) (hk : k < ys.length) {u : Value} (hu : ys[k]? = some u) : Upto (xs.set k u) (k + 1) ys := by
  refine ⟨by simpa using h.1, fun j hj => ?_⟩
  rw [List.getElem?_set]
  by_cases e : k = j
  · subst e
    rw [if_pos rfl, if_pos (by rw [h.1]; exact hk), hu]
  · rw [if_neg e]; exact h.2 j (by omega)
theorem Upto.all {xs ys : List Value} (h : Upto xs ys.length ys) : xs = ys := by
  apply List.ext_getElem?
  intro j
  by_cases hj : j < ys.length
  · exact h.2 j hj
  · rw [List.getElem?_eq_none (by rw [h.1]; omega), List.getElem?_eq_none (by omega)]


/-- A comparison of two slices that read as the same numbers. -/
theorem eqints_same (v1 v2 : Value) (zs : List Int) (w : World) (h1 : IntsAre .i64 w v1 zs) (h2 : IntsAre .i64 w v2 zs) :
    Calls Tryz.prog 55 #[v1, v2] w fun e w' => e = .returned (.bool true) ∧ ∃ n, w' = w.drewN n := by
  have hlen : ∀ sv, IntsAre .i64 w sv zs → ∃ a c, sv = .slice a zs.length c := by
    intro sv h
    rcases h with ⟨rfl, rfl⟩ | ⟨b, off, cap, rfl, _, _⟩
    · exact ⟨none, 0, rfl⟩
    · exact ⟨_, _, rfl⟩
  by_cases h0 : zs = []
  · subst h0
    obtain ⟨a1, c1, rfl⟩ := hlen _ h1
    obtain ⟨a2, c2, rfl⟩ := hlen _ h2
    clear hlen h1 h2
    go_enter Tryz.func55, Tryz.ntmps55
    go_wp2
    go_rounds 1
    go_ret
    exact ⟨rfl, 0, rfl⟩
  · rcases h1 with ⟨_, e⟩ | ⟨b1, o1, c1, rfl, hm, hc1⟩
    · exact absurd e h0
    rcases h2 with ⟨_, e⟩ | ⟨b2, o2, c2, rfl, _, hc2⟩
    · exact absurd e h0
    have HC1 := Lib.hid hc1
    have HC2 := Lib.hid hc2
    clear hlen h0 hc1 hc2
    go_enter Tryz.func55, Tryz.ntmps55
    go_wp2
    go_loopw [5] (fun i wr => ∃ (k m : Nat), k ≤ zs.length ∧ i = .int .i64 k ∧ wr = w.drewN m) (fun i _ => zs.length - (intOf i).toNat)
    case atStart => exact ⟨0, 0, Nat.zero_le _, rfl, rfl⟩
    case round =>
      obtain ⟨k, m, hk, rfl, rfl⟩ := hrel
      by_cases hlt : k < zs.length
      · have c1' := HC1.out k hlt
        have c2' := HC2.out k hlt
        generalize hz : zs.getD k 0 = z at c1' c2'
        clear hz
        have hki : (k : Int) < (zs.length : Int) := by omega
        go_wp2_with (fail)
        go_quiet (fail)
        go_wp2
        go_roundw
        case rel => exact ⟨k + 1, _, by omega, by go_num, rfl⟩
        case measure => simp [intOf]; omega
      · go_wp2
        go_ret
        exact ⟨rfl, _, rfl⟩
end Go.Proofs.YtcoldhdghcdaeabGreatDoor
