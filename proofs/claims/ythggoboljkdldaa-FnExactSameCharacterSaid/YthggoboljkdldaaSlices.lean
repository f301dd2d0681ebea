/- The law's helpers on slices of numbers: copies, comparison. -/
import Derived.Test.YthggoboljkdldaaInts
import Derived.OwnWalk
import Derived.Laws.OwnMore
import Derived.Deep.AppendLies
import Derived.WalkSmall
import Derived.Outline
namespace Go.Proofs.Ythggoboljkdldaa
open Go.ChangeShapes Go.WideShapes Go.ChangeAt Go.RowKit Pm

theorem info64 : (Try.prog.info? 2).map (fun i => (i.zero, i.size, i.bytes)) = some (some (.int .i64 0), 1, 8) := by kernel_rfl

/-- An owned row of numbers reads as them. -/
theorem ints_of_own {w : World} {B : Nat} {T : TypeId} {k : IntKind} {v : Value} {n : Nat} {zs : List Int} (h : w.ownsRow B T 1 v n (zs.map (Value.int k))) (hm : n ≤ 9223372036854775807) : IntsAre k w v zs := by
  have hl : zs.length = n := by have := h.1; simpa using this
  subst hl
  by_cases h0 : zs.length = 0
  · rcases h.2 with ⟨e1, _⟩ | ⟨g, cap, cur, e1, _⟩
    · exact .inl ⟨by rw [e1], List.length_eq_zero_iff.1 h0⟩
    · exact .inr ⟨g, 0, cap, e1, hm, fun i hi => by omega⟩
  · obtain ⟨g, cap, rfl, _, _⟩ := h.form (by omega)
    refine .inr ⟨g, 0, cap, rfl, hm, fun i hi => ?_⟩
    rw [Nat.zero_add, h.cellAt i (by omega)]
    simp [hi]

/-- What a row that a call has made holds, and what the world is behind it. -/
def OwnRet (T : TypeId) (xs : List Value) (w : World) (e : Ending) (w' : World) : Prop :=
  ∃ v, e = .returned v ∧ w'.ownsRow w.heap.size T 1 v xs.length xs ∧ Below w.heap.size w w'

/-- An owned row below the heap's size stays while a call makes blocks of its own. -/
theorem own_below {w w' : World} {B : Nat} {T : TypeId} {v : Value} {n : Nat} {xs : List Value} (h : w.ownsRow B T 1 v n xs) (hb : Below w.heap.size w w') : w'.ownsRow B T 1 v n xs := by
  refine ⟨h.1, ?_⟩
  rcases h.2 with h2 | ⟨g, cap, cur, h1, h3, h4, h5⟩
  · exact .inl h2
  · refine .inr ⟨g, cap, cur, h1, h3, ?_, h5⟩
    have hlt : g < w.heap.size := by
      rcases Nat.lt_or_ge g w.heap.size with h' | h'
      · exact h'
      · rw [Array.getElem?_eq_none h'] at h4; cases h4
    rw [hb.block g hlt]; exact h4

/-- So far k cells of a row are these. -/
def Upto (xs : List Value) (k : Nat) (ys : List Value) : Prop := xs.length = ys.length ∧ ∀ j, j < k → xs[j]? = ys[j]?
theorem Upto.step {xs ys : List Value} {k : Nat} (h : Upto xs k ys) (hk : k < ys.length) {u : Value} (hu : ys[k]? = some u) : Upto (xs.set k u) (k + 1) ys := by
  refine ⟨by simpa using h.1, fun j hj => ?_⟩
  rw [List.getElem?_set]
  by_cases e : k = j
  · subst e
    rw [if_pos rfl, if_pos (by rw [h.1]; exact hk), hu]
  · rw [if_neg e]; exact h.2 j (by omega)
theorem Upto.all {xs ys : List Value} (h : Upto xs ys.length ys) : xs = ys := by
  apply List.ext_getElem?
  intro j
  by_cases hj : j < ys.length
  · exact h.2 j hj
  · rw [List.getElem?_eq_none (by rw [h.1]; omega), List.getElem?_eq_none (by omega)]

theorem toints_any (sv : Value) (zs : List Int) (w : World) (hs : IntsAre .i64 w sv zs) (hn : zs.length ≤ 1048576) :
    Calls Try.prog 11 #[sv] w (OwnRet 2 (zs.map (Value.int .i64)) w) := by
  obtain ⟨i0, hi, hz0, hz1, hz2⟩ := info_parts info64
  rcases hs with ⟨rfl, rfl⟩ | ⟨b, off, cap, rfl, hm, hc⟩
  · go_enter Try.func11, Try.ntmps11
    go_wp2_with (at_make; refine wpList_make_full _ rfl _ _ 22 rfl w.heap.size 2 i0 (.int .i64 0) 1 Try.underlying22 hi hz0 hz1 _ _ _ _ 0 rfl rfl rfl rfl (by omega) (by unfold maxLen; omega) (Nat.le_refl _) ?_)
    intro w1 hown hg
    have hb : Below w.heap.size w w1 := (Below.refl _ _).grown hg (Nat.le_refl _) (fun k hk => by cases hk)
    have HO := Lib.hid hown
    have HB := Lib.hid hb
    clear hown hg hb
    go_wp2
    go_rounds 1
    go_ret
    have e : (madeCells #[Value.int .i64 0] 0).toList = ([] : List Value) := List.length_eq_zero_iff.1 (by have := HO.out.1; simpa using this)
    exact ⟨_, rfl, by have h := HO.out; rw [e] at h; exact h, HB.out⟩
  · have HC := Lib.hid hc
    clear hc
    go_enter Try.func11, Try.ntmps11
    go_wp2_with (at_make; refine wpList_make_full _ rfl _ _ 22 rfl w.heap.size 2 i0 (.int .i64 0) 1 Try.underlying22 hi hz0 hz1 _ _ _ _ zs.length rfl rfl rfl rfl (by rw [hz2]; omega) (by unfold maxLen; omega) (Nat.le_refl _) ?_)
    intro w1 hown hg
    have hb : Below w.heap.size w w1 := (Below.refl _ _).grown hg (Nat.le_refl _) (fun k hk => by cases hk)
    obtain ⟨xs0, hx0⟩ : ∃ xs0, xs0 = (madeCells #[Value.int .i64 0] zs.length).toList := ⟨_, rfl⟩
    rw [← hx0] at hown
    have hl0 : xs0.length = zs.length := by have := hown.1; omega
    have HO := Lib.hid hown
    have HB := Lib.hid hb
    clear hown hg hb hx0
    go_wp2_with (fail)
    go_loopw [4] (fun i wr => ∃ (k : Nat) (xs : List Value), k ≤ zs.length ∧ i = .int .i64 k ∧ Upto xs k (zs.map (Value.int .i64)) ∧ wr.ownsRow w.heap.size 2 1 (.slice (some ⟨w.heap.size, 0, none⟩) zs.length zs.length) zs.length xs ∧ Below w.heap.size w wr) (fun i _ => zs.length - (intOf i).toNat)
    case atStart => exact ⟨0, xs0, Nat.zero_le _, rfl, ⟨by simpa using hl0, fun j hj => by omega⟩, HO.out, HB.out⟩
    case round =>
      obtain ⟨k, xs, hk, rfl, hup, hown, hbel⟩ := hrel
      have HU := Lib.hid hup
      clear hup
      by_cases hlt : k < zs.length
      · have hcell := cell_below (HC.out k hlt) hbel
        have hold := hown.cellAt k (by omega)
        rw [List.getElem?_eq_getElem (by have := HU.out.1; simp at this; omega)] at hold
        have hfz := hown.frozenAt k
        have hst := hown.stored k (.int .i64 (zs.getD k 0))
        have hup2 := HU.out.step (u := .int .i64 (zs.getD k 0)) (by simpa using hlt) (by simp [hlt])
        have hb2 : Below w.heap.size w (wr.setCell ⟨w.heap.size, k, none⟩ (.int .i64 (zs.getD k 0))) := hbel.setCell (Nat.le_refl _) _
        generalize hz : zs.getD k 0 = z at hcell hst hup2 hb2
        have HST := Lib.hid hst.1
        have HUP := Lib.hid hup2
        have HB2 := Lib.hid hb2
        clear hst hup2 hb2 hown hbel hz
        go_wp2
        go_roundw
        case rel => exact ⟨k + 1, _, by omega, by go_num, HUP.out, HST.out, HB2.out⟩
        case measure => simp [intOf]; omega
      · obtain rfl : k = zs.length := by omega
        have HO2 := Lib.hid hown
        have HB2 := Lib.hid hbel
        clear hown hbel
        go_wp2
        go_ret
        refine ⟨_, rfl, ?_, HB2.out⟩
        have e : xs = zs.map (Value.int .i64) := by
          have h := HU.out
          rw [show zs.length = (zs.map (Value.int .i64)).length by simp] at h
          exact h.all
        rw [← e, HO2.out.1, Nat.mul_one]
        exact HO2.out

/-- A comparison of two slices that read as the same numbers. -/
theorem eqints_same (v1 v2 : Value) (zs : List Int) (w : World) (h1 : IntsAre .i64 w v1 zs) (h2 : IntsAre .i64 w v2 zs) :
    Calls Try.prog 13 #[v1, v2] w fun e w' => e = .returned (.bool true) ∧ ∃ n, w' = w.drewN n := by
  have hlen : ∀ sv, IntsAre .i64 w sv zs → ∃ a c, sv = .slice a zs.length c := by
    intro sv h
    rcases h with ⟨rfl, rfl⟩ | ⟨b, off, cap, rfl, _, _⟩
    · exact ⟨none, 0, rfl⟩
    · exact ⟨_, _, rfl⟩
  by_cases h0 : zs = []
  · subst h0
    obtain ⟨a1, c1, rfl⟩ := hlen _ h1
    obtain ⟨a2, c2, rfl⟩ := hlen _ h2
    clear hlen h1 h2
    go_enter Try.func13, Try.ntmps13
    go_wp2
    go_rounds 1
    go_ret
    exact ⟨rfl, 0, rfl⟩
  · rcases h1 with ⟨_, e⟩ | ⟨b1, o1, c1, rfl, hm, hc1⟩
    · exact absurd e h0
    rcases h2 with ⟨_, e⟩ | ⟨b2, o2, c2, rfl, _, hc2⟩
    · exact absurd e h0
    have HC1 := Lib.hid hc1
    have HC2 := Lib.hid hc2
    clear hlen h0 hc1 hc2
    go_enter Try.func13, Try.ntmps13
    go_wp2
    go_loopw [5] (fun i wr => ∃ (k m : Nat), k ≤ zs.length ∧ i = .int .i64 k ∧ wr = w.drewN m) (fun i _ => zs.length - (intOf i).toNat)
    case atStart => exact ⟨0, 0, Nat.zero_le _, rfl, rfl⟩
    case round =>
      obtain ⟨k, m, hk, rfl, rfl⟩ := hrel
      by_cases hlt : k < zs.length
      · have c1' := HC1.out k hlt
        have c2' := HC2.out k hlt
        generalize hz : zs.getD k 0 = z at c1' c2'
        clear hz
        have hki : (k : Int) < (zs.length : Int) := by omega
        go_wp2_with (fail)
        go_quiet (fail)
        go_wp2
        go_roundw
        case rel => exact ⟨k + 1, _, by omega, by go_num, rfl⟩
        case measure => simp [intOf]; omega
      · go_wp2
        go_ret
        exact ⟨rfl, _, rfl⟩
end Go.Proofs.Ythggoboljkdldaa
