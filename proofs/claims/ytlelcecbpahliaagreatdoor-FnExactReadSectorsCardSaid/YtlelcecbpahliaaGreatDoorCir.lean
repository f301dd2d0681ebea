/- The circle: the colors of all bearings; rows of texts. -/
import Derived.Test.YtlelcecbpahliaaGreatDoorSimM
import Derived.Test.YtlelcecbpahliaaGreatDoorSctL
import Derived.Test.YtlelcecbpahliaaGreatDoorGeoM
namespace Go.Proofs.YtlelcecbpahliaaGreatDoor
open Go.ChangeShapes Go.WideShapes Go.ChangeAt Go.RowKit Pm

def e0 : ByteArray := ⟨#[]⟩
/-- k bearings from f on have got a color. -/
def paintK (L : List ByteArray) (f : Int) (c : ByteArray) (k : Int) : List ByteArray := (List.range 360).map fun (b : Nat) => if ((b : Int) - f) % 360 < k then c else L.getD b e0
theorem paintK_len (L : List ByteArray) (f : Int) (c : ByteArray) (k : Int) : (paintK L f c k).length = 360 := by simp [paintK]
theorem paintK_at (L : List ByteArray) (f : Int) (c : ByteArray) (k : Int) (b : Nat) (h : b < 360) : (paintK L f c k).getD b e0 = if ((b : Int) - f) % 360 < k then c else L.getD b e0 := by
  simp [paintK, h]
theorem paintK_zero {L : List ByteArray} (h : L.length = 360) (f : Int) (c : ByteArray) : paintK L f c 0 = L := by
  apply List.ext_getElem (by rw [paintK_len, h])
  intro i h1 h2
  have h3 : ¬ ((i : Int) - f) % 360 < 0 := by omega
  simp [paintK, h3, h2]
theorem paintK_step (L : List ByteArray) {f : Int} (c : ByteArray) {k : Int} (hk0 : 0 ≤ k) (hk : k < 360) (j : Nat) (hj : (j : Int) = (f + k) % 360) : (paintK L f c k).set j c = paintK L f c (k + 1) := by
  apply List.ext_getElem (by simp [paintK])
  intro i h1 h2
  rw [List.getElem_set]
  have hi : i < 360 := by simpa [paintK] using h2
  by_cases e : j = i
  · rw [if_pos e]
    have h3 : ((i : Int) - f) % 360 < k + 1 := by omega
    simp [paintK, h3]
  · rw [if_neg e]
    by_cases h4 : ((i : Int) - f) % 360 < k
    · have h5 : ((i : Int) - f) % 360 < k + 1 := by omega
      simp [paintK, h4, h5]
    · have h5 : ¬ ((i : Int) - f) % 360 < k + 1 := by omega
      simp [paintK, h4, h5]
/-- The circle of a list. -/
def circL (ps : List Sec) : List ByteArray := ps.foldl (fun L p => paintK L p.1 p.2.2 (arcS p)) (List.replicate 360 e0)
theorem circL_nil : circL [] = List.replicate 360 e0 := rfl
theorem circL_snoc (ps : List Sec) (p : Sec) : circL (ps ++ [p]) = paintK (circL ps) p.1 p.2.2 (arcS p) := by unfold circL; rw [List.foldl_append]; rfl
theorem circL_take (ps : List Sec) (k : Nat) (h : k < ps.length) : circL (ps.take (k + 1)) = paintK (circL (ps.take k)) (ps.getD k sec0).1 (ps.getD k sec0).2.2 (arcS (ps.getD k sec0)) := by
  rw [sec_take ps k h, circL_snoc]
theorem fold_len (ps : List Sec) : ∀ L : List ByteArray, L.length = 360 → (ps.foldl (fun L p => paintK L p.1 p.2.2 (arcS p)) L).length = 360 := by
  induction ps with
  | nil => intro L h; exact h
  | cons p ps ih => intro L _; exact ih _ (paintK_len ..)
theorem circL_len (ps : List Sec) : (circL ps).length = 360 := fold_len ps _ List.length_replicate
theorem fold_at (b : Nat) (hb : b < 360) : ∀ (ps : List Sec) (L : List ByteArray), (ps.foldl (fun L p => paintK L p.1 p.2.2 (arcS p)) L).getD b e0 = ps.foldl (fun c p => if hasB p b then p.2.2 else c) (L.getD b e0)
  | [], _ => rfl
  | p :: ps, L => by
    rw [List.foldl_cons, List.foldl_cons, fold_at b hb ps, paintK_at _ _ _ _ b hb]
    congr 1
    unfold hasB
    by_cases h : ((b : Int) - p.1) % 360 < arcS p
    · rw [if_pos h, decide_eq_true h, if_pos rfl]
    · rw [if_neg h, decide_eq_false h]; simp
theorem circL_at (ps : List Sec) (b : Nat) (hb : b < 360) : (circL ps).getD b e0 = paintC ps b := by
  unfold circL paintC
  rw [fold_at b hb]
  congr 1
  rw [List.getD_eq_getElem?_getD, List.getElem?_replicate, if_pos hb]; rfl

/-! Rows of texts. -/
def cirV (L : List ByteArray) : List Value := L.map Value.string
theorem cirV_len (L : List ByteArray) : (cirV L).length = L.length := by simp [cirV]
theorem cirV_at (L : List ByteArray) (i : Nat) (h : i < L.length) : (cirV L)[i]? = some (.string (L.getD i e0)) := by simp [cirV, h]
theorem cirV_set (L : List ByteArray) (i : Nat) (c : ByteArray) : (cirV L).set i (.string c) = cirV (L.set i c) := by simp [cirV, List.map_set]
theorem made_str (n : Nat) : (madeCells #[Value.string ⟨#[]⟩] n).toList = cirV (List.replicate n e0) := by
  have h1 : (madeCells #[Value.string ⟨#[]⟩] n).toList = List.replicate n (Value.string ⟨#[]⟩) := by
    refine List.eq_replicate_iff.2 ⟨by simp [madeCells], fun b hb => ?_⟩
    simp [madeCells] at hb
    obtain ⟨j, _, h2⟩ := hb
    simpa [Nat.mod_one] using h2.symm
  rw [h1]; simp [cirV, e0]
theorem strinfo_parts {t : TypeId} {z : Value} {s b : Nat} (h : (Tryz.prog.info? t).map (fun i => (i.zero, i.size, i.bytes)) = some (some z, s, b)) :
    ∃ i, Tryz.prog.info? t = some i ∧ i.zero = some z ∧ i.size = s ∧ i.bytes = b := secinfo_parts h
theorem infoStrC : (Tryz.prog.info? 9).map (fun i => (i.zero, i.size, i.bytes)) = some (some (.string ⟨#[]⟩), 1, 16) := by kernel_rfl
/-- An owned row of texts, at a block. -/
def OwnC (w : World) (B g : Nat) (n cap : Nat) (L : List ByteArray) : Prop := w.ownsRow B 9 1 (.slice (some ⟨g, 0, none⟩) n cap) n (cirV L)
theorem OwnC.below {w w' : World} {B g n cap : Nat} {L : List ByteArray} (h : OwnC w B g n cap L) (hb : Below w.heap.size w w') : OwnC w' B g n cap L := by
  refine ⟨h.1, ?_⟩
  rcases h.2 with h2 | ⟨g, cap, cur, h1, h3, h4, h5⟩
  · exact .inl h2
  · refine .inr ⟨g, cap, cur, h1, h3, ?_, h5⟩
    have hlt : g < w.heap.size := by
      rcases Nat.lt_or_ge g w.heap.size with h' | h'
      · exact h'
      · rw [Array.getElem?_eq_none h'] at h4; cases h4
    rw [hb.block g hlt]; exact h4
theorem OwnC.len {w : World} {B g n cap : Nat} {L : List ByteArray} (h : OwnC w B g n cap L) : L.length = n := by
  have := h.1; rw [cirV_len] at this; omega
theorem OwnC.cell {w : World} {B g n cap : Nat} {L : List ByteArray} (h : OwnC w B g n cap L) (i : Nat) (hi : i < n) : w.cell? ⟨g, i, none⟩ = some (.string (L.getD i e0)) :=
  (World.ownsRow.cellAt h i (by have := h.1; omega)).trans (cirV_at L i (by rw [h.len]; exact hi))
theorem OwnC.frozen {w : World} {B g n cap : Nat} {L : List ByteArray} (h : OwnC w B g n cap L) (i : Nat) : w.frozen? ⟨g, i, none⟩ = false := World.ownsRow.frozenAt h i
theorem OwnC.put {w : World} {B g n cap : Nat} {L : List ByteArray} (h : OwnC w B g n cap L) (i : Nat) (c : ByteArray) : OwnC (w.setCell ⟨g, i, none⟩ (.string c)) B g n cap (L.set i c) := by
  have := (World.ownsRow.stored h i (.string c)).1
  unfold OwnC
  rwa [cirV_set] at this
theorem OwnC.ge {w : World} {B g n cap : Nat} {L : List ByteArray} (h : OwnC w B g n cap L) : B ≤ g := by
  rcases h.2 with ⟨h1, _⟩ | ⟨g2, cap2, cur, h1, h3, _⟩
  · cases h1
  · simp at h1; omega
end Go.Proofs.YtlelcecbpahliaaGreatDoor
