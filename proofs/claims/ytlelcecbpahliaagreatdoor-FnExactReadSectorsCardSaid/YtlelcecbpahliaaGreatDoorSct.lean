/- Slices of sectors: how they read, a law's own words on them (size, copy, comparison). -/
import Derived.Test.YtlelcecbpahliaaGreatDoorKit
import Derived.OwnWalk
import Derived.Laws.OwnMore
import Derived.WalkSmall
namespace Go.Proofs.YtlelcecbpahliaaGreatDoor
open Go.ChangeShapes Go.WideShapes Go.ChangeAt Go.RowKit Pm

/-- A sector: from, to, its color's bytes. -/
abbrev Sec := Int × Int × ByteArray
def sec0 : Sec := (0, 0, ⟨#[]⟩)
/-- The cells of a list of sectors. -/
def secV (ps : List Sec) : List Value := ps.flatMap fun p => [.int .i64 p.1, .int .i64 p.2.1, .string p.2.2]
theorem secV_len (ps : List Sec) : (secV ps).length = ps.length * 3 := by
  induction ps with
  | nil => rfl
  | cons p ps ih => simp only [secV, List.flatMap_cons, List.length_append, List.length_cons, List.length_nil] at *; omega
theorem secV_app (ps qs : List Sec) : secV (ps ++ qs) = secV ps ++ secV qs := by simp [secV]
theorem secV_at : ∀ (ps : List Sec) (i : Nat), i < ps.length → (secV ps)[i * 3]? = some (.int .i64 (ps.getD i sec0).1) ∧ (secV ps)[i * 3 + 1]? = some (.int .i64 (ps.getD i sec0).2.1) ∧ (secV ps)[i * 3 + 2]? = some (.string (ps.getD i sec0).2.2)
  | [], _, h => by simp at h
  | p :: ps, 0, _ => ⟨rfl, rfl, rfl⟩
  | p :: ps, i + 1, h => by
    have := secV_at ps i (by simpa using h)
    rw [show (i + 1) * 3 = i * 3 + 3 by omega]
    simpa [secV] using this
theorem sec_getD (ps : List Sec) (i : Nat) (h : i < ps.length) : ps.getD i sec0 = ps[i] := by simp [h]
theorem sec_take (ps : List Sec) (k : Nat) (h : k < ps.length) : ps.take (k + 1) = ps.take k ++ [ps.getD k sec0] := by
  rw [List.take_succ_eq_append_getElem h]; simp [h]

/-- A slice that reads as sectors: it is empty, wherever it leads, or a row of cells. -/
def ArgSec (w : World) (a : Option Addr) (n : Nat) (ps : List Sec) : Prop :=
  n = ps.length ∧ (ps = [] ∨ ∃ b off, a = some ⟨b, off, none⟩ ∧ ∀ i, i < ps.length → w.cell? ⟨b, off + i * 3, none⟩ = some (.int .i64 (ps.getD i sec0).1) ∧ w.cell? ⟨b, off + i * 3 + 1, none⟩ = some (.int .i64 (ps.getD i sec0).2.1) ∧ w.cell? ⟨b, off + i * 3 + 2, none⟩ = some (.string (ps.getD i sec0).2.2))
theorem ArgSec.below {w w' : World} {a : Option Addr} {n : Nat} {ps : List Sec} (h : ArgSec w a n ps) (hb : Below w.heap.size w w') : ArgSec w' a n ps := by
  obtain ⟨h0, h⟩ := h
  refine ⟨h0, ?_⟩
  rcases h with h | ⟨b, off, h1, h2⟩
  · exact .inl h
  · exact .inr ⟨b, off, h1, fun i hi => ⟨cell_below (h2 i hi).1 hb, cell_below (h2 i hi).2.1 hb, cell_below (h2 i hi).2.2 hb⟩⟩
theorem ArgSec.drewN {w : World} {a : Option Addr} {n : Nat} {ps : List Sec} (h : ArgSec w a n ps) (m : Nat) : ArgSec (w.drewN m) a n ps := h.below (below_drewN (Below.refl _ _) m)
theorem ArgSec.drew {w : World} {a : Option Addr} {n : Nat} {ps : List Sec} (h : ArgSec w a n ps) : ArgSec w.drew a n ps := h.below (Below.refl _ _).drew
/-- A slice as a value. -/
def SecAre (w : World) (sv : Value) (ps : List Sec) : Prop := ∃ a c, sv = .slice a ps.length c ∧ ArgSec w a ps.length ps
theorem SecAre.below {w w' : World} {v : Value} {ps : List Sec} (h : SecAre w v ps) (hb : Below w.heap.size w w') : SecAre w' v ps := by
  obtain ⟨a, c, rfl, h⟩ := h
  exact ⟨a, c, rfl, h.below hb⟩
theorem SecAre.none (w : World) : SecAre w (.slice none 0 0) [] := ⟨_, _, rfl, rfl, .inl rfl⟩

theorem secinfo_parts {t : TypeId} {z : Value} {s b : Nat} (h : (Tryz.prog.info? t).map (fun i => (i.zero, i.size, i.bytes)) = some (some z, s, b)) :
    ∃ i, Tryz.prog.info? t = some i ∧ i.zero = some z ∧ i.size = s ∧ i.bytes = b := by
  cases hi : Tryz.prog.info? t with
  | none => rw [hi] at h; cases h
  | some i => rw [hi] at h; simp at h; exact ⟨i, rfl, h.1, h.2.1, h.2.2⟩
theorem infoSec : (Tryz.prog.info? 52).map (fun i => (i.zero, i.size, i.bytes)) = some (some (.agg #[.int .i64 0, .int .i64 0, .string ⟨#[]⟩]), 3, 32) := by kernel_rfl

/-- An owned row of sectors. -/
def OwnSec (w : World) (B : Nat) (v : Value) (ps : List Sec) : Prop := w.ownsRow B 52 3 v ps.length (secV ps)
theorem OwnSec.below {w w' : World} {B : Nat} {v : Value} {ps : List Sec} (h : OwnSec w B v ps) (hb : Below w.heap.size w w') : OwnSec w' B v ps := by
  refine ⟨h.1, ?_⟩
  rcases h.2 with h2 | ⟨g, cap, cur, h1, h3, h4, h5⟩
  · exact .inl h2
  · refine .inr ⟨g, cap, cur, h1, h3, ?_, h5⟩
    have hlt : g < w.heap.size := by
      rcases Nat.lt_or_ge g w.heap.size with h' | h'
      · exact h'
      · rw [Array.getElem?_eq_none h'] at h4; cases h4
    rw [hb.block g hlt]; exact h4
theorem OwnSec.mono {w : World} {B B' : Nat} {v : Value} {ps : List Sec} (h : OwnSec w B v ps) (hB : B' ≤ B) : OwnSec w B' v ps := by
  refine ⟨h.1, ?_⟩
  rcases h.2 with h2 | ⟨g, cap, cur, h1, h3, h4⟩
  · exact .inl h2
  · exact .inr ⟨g, cap, cur, h1, Nat.le_trans hB h3, h4⟩
theorem OwnSec.none (w : World) (B : Nat) : OwnSec w B (.slice none 0 0) [] := ⟨rfl, .inl ⟨rfl, rfl⟩⟩
theorem OwnSec.drew {w : World} {B : Nat} {v : Value} {ps : List Sec} (h : OwnSec w B v ps) : OwnSec w.drew B v ps := h.below (Below.refl _ _).drew
theorem OwnSec.drewN {w : World} {B : Nat} {v : Value} {ps : List Sec} (h : OwnSec w B v ps) (m : Nat) : OwnSec (w.drewN m) B v ps := h.below (below_drewN (Below.refl _ _) m)
theorem OwnSec.are {w : World} {B : Nat} {v : Value} {ps : List Sec} (h : OwnSec w B v ps) : SecAre w v ps := by
  by_cases h0 : ps.length = 0
  · have hnil : ps = [] := List.length_eq_zero_iff.1 h0
    subst hnil
    rcases h.2 with ⟨h1, _⟩ | ⟨g, cap, cur, h1, _⟩
    · exact ⟨_, 0, h1, rfl, .inl rfl⟩
    · exact ⟨_, cap, h1, rfl, .inl rfl⟩
  · obtain ⟨g, cap, hv⟩ : ∃ g cap, v = .slice (some ⟨g, 0, Option.none⟩) ps.length cap := by
      rcases h.2 with ⟨_, hz⟩ | ⟨g, cap, _, hv, _⟩
      · exact absurd hz h0
      · exact ⟨g, cap, hv⟩
    subst hv
    refine ⟨_, cap, rfl, rfl, .inr ⟨g, 0, rfl, fun i hi => ?_⟩⟩
    obtain ⟨v0, v1, v2⟩ := secV_at ps i hi
    have h' : w.ownsRow B 52 3 (.slice (some ⟨g, 0, Option.none⟩) ps.length cap) ps.length (secV ps) := h
    rw [Nat.zero_add]
    exact ⟨(h'.cellAt (i * 3) (by omega)).trans v0, (h'.cellAt (i * 3 + 1) (by omega)).trans v1, (h'.cellAt (i * 3 + 2) (by omega)).trans v2⟩
theorem OwnSec.form {w : World} {B : Nat} {v : Value} {ps : List Sec} (h : OwnSec w B v ps) : (v = .slice Option.none 0 0 ∧ ps = []) ∨ ∃ g cap, v = .slice (some ⟨g, 0, Option.none⟩) ps.length cap ∧ B ≤ g := by
  rcases h.2 with ⟨h1, h2⟩ | ⟨g, cap, cur, h1, h3, _⟩
  · exact .inl ⟨h1, List.length_eq_zero_iff.1 (by simpa using h2)⟩
  · exact .inr ⟨g, cap, h1, h3⟩

/-- So far k cells of a row are these. -/
def SecUpto (xs : List Value) (k : Nat) (ys : List Value) : Prop := xs.length = ys.length ∧ ∀ j, j < k → xs[j]? = ys[j]?
theorem SecUpto.step {xs ys : List Value} {k : Nat} (h : SecUpto xs k ys) (hk : k < ys.length) {u : Value} (hu : ys[k]? = some u) : SecUpto (xs.set k u) (k + 1) ys := by
  refine ⟨by simpa using h.1, fun j hj => ?_⟩
  rw [List.getElem?_set]
  by_cases e : k = j
  · subst e
    rw [if_pos rfl, if_pos (by rw [h.1]; exact hk), hu]
  · rw [if_neg e]; exact h.2 j (by omega)
theorem SecUpto.all {xs ys : List Value} (h : SecUpto xs ys.length ys) : xs = ys := by
  apply List.ext_getElem?
  intro j
  by_cases hj : j < ys.length
  · exact h.2 j hj
  · rw [List.getElem?_eq_none (by rw [h.1]; omega), List.getElem?_eq_none (by omega)]

theorem eqsec_any (f t : Int) (s : ByteArray) (w : World) :
    Calls Tryz.prog 30 #[.agg #[.int .i64 f, .int .i64 t, .string s], .agg #[.int .i64 f, .int .i64 t, .string s]] w fun e w' => e = .returned (.bool true) ∧ Below w.heap.size w w' := by
  go_enter Tryz.func30, Tryz.ntmps30
  go_wp2
  go_ret
  exact ⟨rfl, by go_grown⟩
end Go.Proofs.YtlelcecbpahliaaGreatDoor
