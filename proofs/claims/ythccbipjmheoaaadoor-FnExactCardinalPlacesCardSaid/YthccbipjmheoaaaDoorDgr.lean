/- Rows of dangers: how they read, a law's own words on them (size, copy, comparison). -/
import Derived.Test.YthccbipjmheoaaaDoorClx
import Derived.Test.YthccbipjmheoaaaDoorOk
import Derived.OwnWalk
import Derived.Laws.OwnMore
import Derived.WalkSmall
namespace Go.Proofs.YthccbipjmheoaaaDoor
open Go.ChangeShapes Go.WideShapes Go.ChangeAt Go.RowKit Pm

/-- A danger: name, place, radius. -/
abbrev Dg := ByteArray × Int × Int × Int
def dg0 : Dg := (⟨#[]⟩, 0, 0, 0)
/-- The cells of a list of dangers. -/
def dgV (ps : List Dg) : List Value := ps.flatMap fun p => [.string p.1, .int .i64 p.2.1, .int .i64 p.2.2.1, .int .i64 p.2.2.2]
theorem dgV_len (ps : List Dg) : (dgV ps).length = ps.length * 4 := by
  induction ps with
  | nil => rfl
  | cons p ps ih => simp only [dgV, List.flatMap_cons, List.length_append, List.length_cons, List.length_nil] at *; omega
theorem dgV_app (ps qs : List Dg) : dgV (ps ++ qs) = dgV ps ++ dgV qs := by simp [dgV]
theorem dgV_at : ∀ (ps : List Dg) (i : Nat), i < ps.length → (dgV ps)[i * 4]? = some (.string (ps.getD i dg0).1) ∧ (dgV ps)[i * 4 + 1]? = some (.int .i64 (ps.getD i dg0).2.1) ∧ (dgV ps)[i * 4 + 2]? = some (.int .i64 (ps.getD i dg0).2.2.1) ∧ (dgV ps)[i * 4 + 3]? = some (.int .i64 (ps.getD i dg0).2.2.2)
  | [], _, h => by simp at h
  | p :: ps, 0, _ => ⟨rfl, rfl, rfl, rfl⟩
  | p :: ps, i + 1, h => by
    have := dgV_at ps i (by simpa using h)
    rw [show (i + 1) * 4 = i * 4 + 4 by omega]
    simpa [dgV] using this
theorem dg_getD (ps : List Dg) (i : Nat) (h : i < ps.length) : ps.getD i dg0 = ps[i] := by simp [h]
theorem dg_take (ps : List Dg) (k : Nat) (h : k < ps.length) : ps.take (k + 1) = ps.take k ++ [ps.getD k dg0] := by
  rw [List.take_succ_eq_append_getElem h]; simp [h]

/-- A slice that reads as dangers: it is empty, wherever it leads, or a row of cells. -/
def ArgDg (w : World) (a : Option Addr) (n : Nat) (ps : List Dg) : Prop :=
  n = ps.length ∧ (ps = [] ∨ ∃ b off, a = some ⟨b, off, none⟩ ∧ ∀ i, i < ps.length → w.cell? ⟨b, off + i * 4, none⟩ = some (.string (ps.getD i dg0).1) ∧ w.cell? ⟨b, off + i * 4 + 1, none⟩ = some (.int .i64 (ps.getD i dg0).2.1) ∧ w.cell? ⟨b, off + i * 4 + 2, none⟩ = some (.int .i64 (ps.getD i dg0).2.2.1) ∧ w.cell? ⟨b, off + i * 4 + 3, none⟩ = some (.int .i64 (ps.getD i dg0).2.2.2))
theorem ArgDg.below {w w' : World} {a : Option Addr} {n : Nat} {ps : List Dg} (h : ArgDg w a n ps) (hb : Below w.heap.size w w') : ArgDg w' a n ps := by
  obtain ⟨h0, h⟩ := h
  refine ⟨h0, ?_⟩
  rcases h with h | ⟨b, off, h1, h2⟩
  · exact .inl h
  · exact .inr ⟨b, off, h1, fun i hi => ⟨cell_below (h2 i hi).1 hb, cell_below (h2 i hi).2.1 hb, cell_below (h2 i hi).2.2.1 hb, cell_below (h2 i hi).2.2.2 hb⟩⟩
theorem ArgDg.drewN {w : World} {a : Option Addr} {n : Nat} {ps : List Dg} (h : ArgDg w a n ps) (m : Nat) : ArgDg (w.drewN m) a n ps := h.below (below_drewN (Below.refl _ _) m)
theorem ArgDg.drew {w : World} {a : Option Addr} {n : Nat} {ps : List Dg} (h : ArgDg w a n ps) : ArgDg w.drew a n ps := h.below (Below.refl _ _).drew
/-- A slice as a value. -/
def DgAre (w : World) (sv : Value) (ps : List Dg) : Prop := ∃ a c, sv = .slice a ps.length c ∧ ArgDg w a ps.length ps
theorem DgAre.below {w w' : World} {v : Value} {ps : List Dg} (h : DgAre w v ps) (hb : Below w.heap.size w w') : DgAre w' v ps := by
  obtain ⟨a, c, rfl, h⟩ := h
  exact ⟨a, c, rfl, h.below hb⟩
theorem DgAre.none (w : World) : DgAre w (.slice none 0 0) [] := ⟨_, _, rfl, rfl, .inl rfl⟩

theorem dginfo_parts {t : TypeId} {z : Value} {s b : Nat} (h : (Tryd.prog.info? t).map (fun i => (i.zero, i.size, i.bytes)) = some (some z, s, b)) :
    ∃ i, Tryd.prog.info? t = some i ∧ i.zero = some z ∧ i.size = s ∧ i.bytes = b := by
  cases hi : Tryd.prog.info? t with
  | none => rw [hi] at h; cases h
  | some i => rw [hi] at h; simp at h; exact ⟨i, rfl, h.1, h.2.1, h.2.2⟩
theorem infoDg : (Tryd.prog.info? 31).map (fun i => (i.zero, i.size, i.bytes)) = some (some (.agg #[.string ⟨#[]⟩, .int .i64 0, .int .i64 0, .int .i64 0]), 4, 40) := by kernel_rfl

/-- An owned row of dangers. -/
def OwnDg (w : World) (B : Nat) (v : Value) (ps : List Dg) : Prop := w.ownsRow B 31 4 v ps.length (dgV ps)
theorem OwnDg.below {w w' : World} {B : Nat} {v : Value} {ps : List Dg} (h : OwnDg w B v ps) (hb : Below w.heap.size w w') : OwnDg w' B v ps := by
  refine ⟨h.1, ?_⟩
  rcases h.2 with h2 | ⟨g, cap, cur, h1, h3, h4, h5⟩
  · exact .inl h2
  · refine .inr ⟨g, cap, cur, h1, h3, ?_, h5⟩
    have hlt : g < w.heap.size := by
      rcases Nat.lt_or_ge g w.heap.size with h' | h'
      · exact h'
      · rw [Array.getElem?_eq_none h'] at h4; cases h4
    rw [hb.block g hlt]; exact h4
theorem OwnDg.mono {w : World} {B B' : Nat} {v : Value} {ps : List Dg} (h : OwnDg w B v ps) (hB : B' ≤ B) : OwnDg w B' v ps := by
  refine ⟨h.1, ?_⟩
  rcases h.2 with h2 | ⟨g, cap, cur, h1, h3, h4⟩
  · exact .inl h2
  · exact .inr ⟨g, cap, cur, h1, Nat.le_trans hB h3, h4⟩
theorem OwnDg.none (w : World) (B : Nat) : OwnDg w B (.slice none 0 0) [] := ⟨rfl, .inl ⟨rfl, rfl⟩⟩
theorem OwnDg.drew {w : World} {B : Nat} {v : Value} {ps : List Dg} (h : OwnDg w B v ps) : OwnDg w.drew B v ps := h.below (Below.refl _ _).drew
theorem OwnDg.drewN {w : World} {B : Nat} {v : Value} {ps : List Dg} (h : OwnDg w B v ps) (m : Nat) : OwnDg (w.drewN m) B v ps := h.below (below_drewN (Below.refl _ _) m)
theorem OwnDg.are {w : World} {B : Nat} {v : Value} {ps : List Dg} (h : OwnDg w B v ps) : DgAre w v ps := by
  by_cases h0 : ps.length = 0
  · have hnil : ps = [] := List.length_eq_zero_iff.1 h0
    subst hnil
    rcases h.2 with ⟨h1, _⟩ | ⟨g, cap, cur, h1, _⟩
    · exact ⟨_, 0, h1, rfl, .inl rfl⟩
    · exact ⟨_, cap, h1, rfl, .inl rfl⟩
  · obtain ⟨g, cap, hv⟩ : ∃ g cap, v = .slice (some ⟨g, 0, Option.none⟩) ps.length cap := by
      rcases h.2 with ⟨_, hz⟩ | ⟨g, cap, _, hv, _⟩
      · exact absurd hz h0
      · exact ⟨g, cap, hv⟩
    subst hv
    refine ⟨_, cap, rfl, rfl, .inr ⟨g, 0, rfl, fun i hi => ?_⟩⟩
    obtain ⟨v0, v1, v2, v3⟩ := dgV_at ps i hi
    have h' : w.ownsRow B 31 4 (.slice (some ⟨g, 0, Option.none⟩) ps.length cap) ps.length (dgV ps) := h
    rw [Nat.zero_add]
    exact ⟨(h'.cellAt (i * 4) (by omega)).trans v0, (h'.cellAt (i * 4 + 1) (by omega)).trans v1, (h'.cellAt (i * 4 + 2) (by omega)).trans v2, (h'.cellAt (i * 4 + 3) (by omega)).trans v3⟩
theorem OwnDg.form {w : World} {B : Nat} {v : Value} {ps : List Dg} (h : OwnDg w B v ps) : (v = .slice Option.none 0 0 ∧ ps = []) ∨ ∃ g cap, v = .slice (some ⟨g, 0, Option.none⟩) ps.length cap ∧ B ≤ g := by
  rcases h.2 with ⟨h1, h2⟩ | ⟨g, cap, cur, h1, h3, _⟩
  · exact .inl ⟨h1, List.length_eq_zero_iff.1 (by simpa using h2)⟩
  · exact .inr ⟨g, cap, h1, h3⟩

/-- So far k cells of a row are these. -/
def DgUpto (xs : List Value) (k : Nat) (ys : List Value) : Prop := xs.length = ys.length ∧ ∀ j, j < k → xs[j]? = ys[j]?
theorem DgUpto.step {xs ys : List Value} {k : Nat} (h : DgUpto xs k ys) (hk : k < ys.length) {u : Value} (hu : ys[k]? = some u) : DgUpto (xs.set k u) (k + 1) ys := by
  refine ⟨by simpa using h.1, fun j hj => ?_⟩
  rw [List.getElem?_set]
  by_cases e : k = j
  · subst e
    rw [if_pos rfl, if_pos (by rw [h.1]; exact hk), hu]
  · rw [if_neg e]; exact h.2 j (by omega)
theorem DgUpto.all {xs ys : List Value} (h : DgUpto xs ys.length ys) : xs = ys := by
  apply List.ext_getElem?
  intro j
  by_cases hj : j < ys.length
  · exact h.2 j hj
  · rw [List.getElem?_eq_none (by rw [h.1]; omega), List.getElem?_eq_none (by omega)]

theorem todg_any (f : ByteArray) (t s r : Int) (w : World) :
    Calls Tryd.prog 8 #[.agg #[.string f, .int .i64 t, .int .i64 s, .int .i64 r]] w fun e w' => e = .returned (.agg #[.string f, .int .i64 t, .int .i64 s, .int .i64 r]) ∧ Below w.heap.size w w' := by
  go_enter Tryd.func8, Tryd.ntmps8
  go_wp2_with (go_at_call 9; go_in)
  go_returns
  exact ⟨rfl, by go_grown⟩
/-- What is left of a size behind a list. -/
def SzD (ps : List Dg) (left r : Int) : Prop := r = -1 ∨ (0 ≤ r ∧ r ≤ left ∧ (ps.length : Int) ≤ left ∧ ∀ p, p ∈ ps → (p.1.size : Int) ≤ left)
theorem szdg_any (f : ByteArray) (t s r : Int) (left : Int) (w : World) (hm : f.size ≤ maxLen) (h0 : 0 ≤ left) (h1 : left ≤ 1048576) :
    Calls Tryd.prog 6 #[.agg #[.string f, .int .i64 t, .int .i64 s, .int .i64 r], .int .i64 left] w fun e w' => e = .returned (.int .i64 (if left < (f.size : Int) then -1 else left - f.size)) ∧ Below w.heap.size w w' := by
  unfold maxLen at hm
  by_cases h : left < (f.size : Int)
  · rw [if_pos h]
    have h2 : left - (f.size : Int) < 0 := by omega
    go_enter Tryd.func6, Tryd.ntmps6
    go_wp2
    go_ret
    exact ⟨rfl, by go_grown⟩
  · rw [if_neg h]
    have h2 : ¬ left - (f.size : Int) < 0 := by omega
    have hw : wrap64 (left - (f.size : Int)) = left - f.size := IntWalk.wrap64_in _ (by omega)
    go_enter Tryd.func6, Tryd.ntmps6
    go_wp2
    go_ret
    exact ⟨rfl, by go_grown⟩

/-- A copy of a list of dangers in memory of its own. -/
def CopyDg (ps : List Dg) (w : World) (e : Ending) (w' : World) : Prop := ∃ v, e = .returned v ∧ OwnDg w' w.heap.size v ps ∧ Below w.heap.size w w'


/-- Worlds with 8 cells. -/
theorem clx8d {w0 w : World} {a0 a1 a2 a3 a4 a5 a6 a7 : Addr} {v0 v1 v2 v3 v4 v5 v6 v7 : Value} (h0 : w.cell? a0 = some v0) (h1 : w.cell? a1 = some v1) (h2 : w.cell? a2 = some v2) (h3 : w.cell? a3 = some v3) (h4 : w.cell? a4 = some v4) (h5 : w.cell? a5 = some v5) (h6 : w.cell? a6 = some v6) (h7 : w.cell? a7 = some v7) (hB : Below w0.heap.size w0 w) :
    ∃ S : World → Prop, (∀ w1 w2, S w1 → Below w1.heap.size w1 w2 → S w2) ∧ S w.drew ∧ (∀ p : Clx S, p.v.cell? a0 = some v0) ∧ (∀ p : Clx S, p.v.cell? a1 = some v1) ∧ (∀ p : Clx S, p.v.cell? a2 = some v2) ∧ (∀ p : Clx S, p.v.cell? a3 = some v3) ∧ (∀ p : Clx S, p.v.cell? a4 = some v4) ∧ (∀ p : Clx S, p.v.cell? a5 = some v5) ∧ (∀ p : Clx S, p.v.cell? a6 = some v6) ∧ (∀ p : Clx S, p.v.cell? a7 = some v7) ∧ ∀ p : Clx S, Below w0.heap.size w0 p.v :=
  ⟨fun w' => w'.cell? a0 = some v0 ∧ w'.cell? a1 = some v1 ∧ w'.cell? a2 = some v2 ∧ w'.cell? a3 = some v3 ∧ w'.cell? a4 = some v4 ∧ w'.cell? a5 = some v5 ∧ w'.cell? a6 = some v6 ∧ w'.cell? a7 = some v7 ∧ Below w0.heap.size w0 w', fun _ _ ⟨x0, x1, x2, x3, x4, x5, x6, x7, xb⟩ hb => ⟨cell_below x0 hb, cell_below x1 hb, cell_below x2 hb, cell_below x3 hb, cell_below x4 hb, cell_below x5 hb, cell_below x6 hb, cell_below x7 hb, Below.next xb hb⟩, ⟨cell_below h0 (Below.refl _ _).drew, cell_below h1 (Below.refl _ _).drew, cell_below h2 (Below.refl _ _).drew, cell_below h3 (Below.refl _ _).drew, cell_below h4 (Below.refl _ _).drew, cell_below h5 (Below.refl _ _).drew, cell_below h6 (Below.refl _ _).drew, cell_below h7 (Below.refl _ _).drew, hB.drew⟩, fun p => p.h.1, fun p => p.h.2.1, fun p => p.h.2.2.1, fun p => p.h.2.2.2.1, fun p => p.h.2.2.2.2.1, fun p => p.h.2.2.2.2.2.1, fun p => p.h.2.2.2.2.2.2.1, fun p => p.h.2.2.2.2.2.2.2.1, fun p => p.h.2.2.2.2.2.2.2.2⟩
end Go.Proofs.YthccbipjmheoaaaDoor
