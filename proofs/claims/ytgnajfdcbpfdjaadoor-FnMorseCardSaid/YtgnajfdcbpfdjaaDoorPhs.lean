/- Slices of phases: how they read, a law's own words on them (size, copy, comparison). -/
import Derived.Test.YtgnajfdcbpfdjaaDoorOkX
import Derived.OwnWalk
import Derived.Laws.OwnMore
import Derived.WalkSmall
namespace Go.Proofs.YtgnajfdcbpfdjaaDoor
open Go.ChangeShapes Go.WideShapes Go.ChangeAt Go.RowKit Pm

/-- A phase: its color's bytes, its length. -/
abbrev Ph := ByteArray × Int
def ph0 : Ph := (⟨#[]⟩, 0)
/-- The cells of a list of phases. -/
def phV (ps : List Ph) : List Value := ps.flatMap fun p => [.string p.1, .int .i64 p.2]
theorem phV_len (ps : List Ph) : (phV ps).length = ps.length * 2 := by
  induction ps with
  | nil => rfl
  | cons p ps ih => simp only [phV, List.flatMap_cons, List.length_append, List.length_cons, List.length_nil] at *; omega
theorem phV_app (ps qs : List Ph) : phV (ps ++ qs) = phV ps ++ phV qs := by simp [phV]
theorem phV_at : ∀ (ps : List Ph) (i : Nat), i < ps.length → (phV ps)[i * 2]? = some (.string (ps.getD i ph0).1) ∧ (phV ps)[i * 2 + 1]? = some (.int .i64 (ps.getD i ph0).2)
  | [], _, h => by simp at h
  | p :: ps, 0, _ => ⟨rfl, rfl⟩
  | p :: ps, i + 1, h => by
    have := phV_at ps i (by simpa using h)
    rw [show (i + 1) * 2 = i * 2 + 2 by omega]
    simpa [phV] using this
theorem ph_getD (ps : List Ph) (i : Nat) (h : i < ps.length) : ps.getD i ph0 = ps[i] := by simp [h]
theorem ph_take (ps : List Ph) (k : Nat) (h : k < ps.length) : ps.take (k + 1) = ps.take k ++ [ps.getD k ph0] := by
  rw [List.take_succ_eq_append_getElem h]; simp [h]

/-- A slice that reads as phases: it is empty, wherever it leads, or a row of cells. -/
def ArgPh (w : World) (a : Option Addr) (n : Nat) (ps : List Ph) : Prop :=
  n = ps.length ∧ (ps = [] ∨ ∃ b off, a = some ⟨b, off, none⟩ ∧ ∀ i, i < ps.length → w.cell? ⟨b, off + i * 2, none⟩ = some (.string (ps.getD i ph0).1) ∧ w.cell? ⟨b, off + i * 2 + 1, none⟩ = some (.int .i64 (ps.getD i ph0).2))
theorem ArgPh.below {w w' : World} {a : Option Addr} {n : Nat} {ps : List Ph} (h : ArgPh w a n ps) (hb : Below w.heap.size w w') : ArgPh w' a n ps := by
  obtain ⟨h0, h⟩ := h
  refine ⟨h0, ?_⟩
  rcases h with h | ⟨b, off, h1, h2⟩
  · exact .inl h
  · exact .inr ⟨b, off, h1, fun i hi => ⟨cell_below (h2 i hi).1 hb, cell_below (h2 i hi).2 hb⟩⟩
theorem ArgPh.drewN {w : World} {a : Option Addr} {n : Nat} {ps : List Ph} (h : ArgPh w a n ps) (m : Nat) : ArgPh (w.drewN m) a n ps := h.below (below_drewN (Below.refl _ _) m)
theorem ArgPh.drew {w : World} {a : Option Addr} {n : Nat} {ps : List Ph} (h : ArgPh w a n ps) : ArgPh w.drew a n ps := h.below (Below.refl _ _).drew
/-- A slice as a value. -/
def PhAre (w : World) (sv : Value) (ps : List Ph) : Prop := ∃ a c, sv = .slice a ps.length c ∧ ArgPh w a ps.length ps
theorem PhAre.below {w w' : World} {v : Value} {ps : List Ph} (h : PhAre w v ps) (hb : Below w.heap.size w w') : PhAre w' v ps := by
  obtain ⟨a, c, rfl, h⟩ := h
  exact ⟨a, c, rfl, h.below hb⟩
theorem PhAre.none (w : World) : PhAre w (.slice none 0 0) [] := ⟨_, _, rfl, rfl, .inl rfl⟩

theorem phinfo_parts {t : TypeId} {z : Value} {s b : Nat} (h : (Tryd.prog.info? t).map (fun i => (i.zero, i.size, i.bytes)) = some (some z, s, b)) :
    ∃ i, Tryd.prog.info? t = some i ∧ i.zero = some z ∧ i.size = s ∧ i.bytes = b := by
  cases hi : Tryd.prog.info? t with
  | none => rw [hi] at h; cases h
  | some i => rw [hi] at h; simp at h; exact ⟨i, rfl, h.1, h.2.1, h.2.2⟩
theorem infoPh : (Tryd.prog.info? 45).map (fun i => (i.zero, i.size, i.bytes)) = some (some (.agg #[.string ⟨#[]⟩, .int .i64 0]), 2, 24) := by kernel_rfl

/-- An owned row of phases. -/
def OwnPh (w : World) (B : Nat) (v : Value) (ps : List Ph) : Prop := w.ownsRow B 45 2 v ps.length (phV ps)
theorem OwnPh.below {w w' : World} {B : Nat} {v : Value} {ps : List Ph} (h : OwnPh w B v ps) (hb : Below w.heap.size w w') : OwnPh w' B v ps := by
  refine ⟨h.1, ?_⟩
  rcases h.2 with h2 | ⟨g, cap, cur, h1, h3, h4, h5⟩
  · exact .inl h2
  · refine .inr ⟨g, cap, cur, h1, h3, ?_, h5⟩
    have hlt : g < w.heap.size := by
      rcases Nat.lt_or_ge g w.heap.size with h' | h'
      · exact h'
      · rw [Array.getElem?_eq_none h'] at h4; cases h4
    rw [hb.block g hlt]; exact h4
theorem OwnPh.mono {w : World} {B B' : Nat} {v : Value} {ps : List Ph} (h : OwnPh w B v ps) (hB : B' ≤ B) : OwnPh w B' v ps := by
  refine ⟨h.1, ?_⟩
  rcases h.2 with h2 | ⟨g, cap, cur, h1, h3, h4⟩
  · exact .inl h2
  · exact .inr ⟨g, cap, cur, h1, Nat.le_trans hB h3, h4⟩
theorem OwnPh.none (w : World) (B : Nat) : OwnPh w B (.slice none 0 0) [] := ⟨rfl, .inl ⟨rfl, rfl⟩⟩
theorem OwnPh.drew {w : World} {B : Nat} {v : Value} {ps : List Ph} (h : OwnPh w B v ps) : OwnPh w.drew B v ps := h.below (Below.refl _ _).drew
theorem OwnPh.drewN {w : World} {B : Nat} {v : Value} {ps : List Ph} (h : OwnPh w B v ps) (m : Nat) : OwnPh (w.drewN m) B v ps := h.below (below_drewN (Below.refl _ _) m)
theorem OwnPh.are {w : World} {B : Nat} {v : Value} {ps : List Ph} (h : OwnPh w B v ps) : PhAre w v ps := by
  by_cases h0 : ps.length = 0
  · have hnil : ps = [] := List.length_eq_zero_iff.1 h0
    subst hnil
    rcases h.2 with ⟨h1, _⟩ | ⟨g, cap, cur, h1, _⟩
    · exact ⟨_, 0, h1, rfl, .inl rfl⟩
    · exact ⟨_, cap, h1, rfl, .inl rfl⟩
  · obtain ⟨g, cap, hv⟩ : ∃ g cap, v = .slice (some ⟨g, 0, Option.none⟩) ps.length cap := by
      rcases h.2 with ⟨_, hz⟩ | ⟨g, cap, _, hv, _⟩
      · exact absurd hz h0
      · exact ⟨g, cap, hv⟩
    subst hv
    refine ⟨_, cap, rfl, rfl, .inr ⟨g, 0, rfl, fun i hi => ?_⟩⟩
    obtain ⟨v0, v1⟩ := phV_at ps i hi
    have h' : w.ownsRow B 45 2 (.slice (some ⟨g, 0, Option.none⟩) ps.length cap) ps.length (phV ps) := h
    rw [Nat.zero_add]
    exact ⟨(h'.cellAt (i * 2) (by omega)).trans v0, (h'.cellAt (i * 2 + 1) (by omega)).trans v1⟩
theorem OwnPh.form {w : World} {B : Nat} {v : Value} {ps : List Ph} (h : OwnPh w B v ps) : (v = .slice Option.none 0 0 ∧ ps = []) ∨ ∃ g cap, v = .slice (some ⟨g, 0, Option.none⟩) ps.length cap ∧ B ≤ g := by
  rcases h.2 with ⟨h1, h2⟩ | ⟨g, cap, cur, h1, h3, _⟩
  · exact .inl ⟨h1, List.length_eq_zero_iff.1 (by simpa using h2)⟩
  · exact .inr ⟨g, cap, h1, h3⟩

/-- So far k cells of a row are these. -/
def PhUpto (xs : List Value) (k : Nat) (ys : List Value) : Prop := xs.length = ys.length ∧ ∀ j, j < k → xs[j]? = ys[j]?
theorem PhUpto.step {xs ys : List Value} {k : Nat} (h : PhUpto xs k ys) (hk : k < ys.length) {u : Value} (hu : ys[k]? = some u) : PhUpto (xs.set k u) (k + 1) ys := by
  refine ⟨by simpa using h.1, fun j hj => ?_⟩
  rw [List.getElem?_set]
  by_cases e : k = j
  · subst e
    rw [if_pos rfl, if_pos (by rw [h.1]; exact hk), hu]
  · rw [if_neg e]; exact h.2 j (by omega)
theorem PhUpto.all {xs ys : List Value} (h : PhUpto xs ys.length ys) : xs = ys := by
  apply List.ext_getElem?
  intro j
  by_cases hj : j < ys.length
  · exact h.2 j hj
  · rw [List.getElem?_eq_none (by rw [h.1]; omega), List.getElem?_eq_none (by omega)]

theorem toph_any (s : ByteArray) (n : Int) (w : World) :
    Calls Tryd.prog 36 #[.agg #[.string s, .int .i64 n]] w fun e w' => e = .returned (.agg #[.string s, .int .i64 n]) ∧ Below w.heap.size w w' := by
  go_enter Tryd.func36, Tryd.ntmps36
  go_wp2
  go_returns
  exact ⟨rfl, by go_grown⟩
theorem eqph_any (s : ByteArray) (n : Int) (w : World) :
    Calls Tryd.prog 39 #[.agg #[.string s, .int .i64 n], .agg #[.string s, .int .i64 n]] w fun e w' => e = .returned (.bool true) ∧ Below w.heap.size w w' := by
  go_enter Tryd.func39, Tryd.ntmps39
  go_wp2
  go_ret
  exact ⟨rfl, by go_grown⟩
theorem szph_any (s : ByteArray) (n left : Int) (w : World) (h0 : 0 ≤ left) (h1 : left ≤ 1048576) (hs : s.size ≤ maxLen) :
    Calls Tryd.prog 31 #[.agg #[.string s, .int .i64 n], .int .i64 left] w fun e w' => e = .returned (.int .i64 (if left < s.size then -1 else left - s.size)) ∧ Below w.heap.size w w' := by
  unfold maxLen at hs
  by_cases h : left < (s.size : Int)
  · rw [if_pos h]
    have h2 : left - (s.size : Int) < 0 := by omega
    go_enter Tryd.func31, Tryd.ntmps31
    go_wp2
    go_ret
    exact ⟨rfl, by go_grown⟩
  · rw [if_neg h]
    have h2 : ¬ left - (s.size : Int) < 0 := by omega
    go_enter Tryd.func31, Tryd.ntmps31
    go_wp2
    go_ret
    exact ⟨rfl, by go_grown⟩
end Go.Proofs.YtgnajfdcbpfdjaaDoor
