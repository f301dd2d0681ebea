/- What a text is read as, as a fog signal. No Go in sight. -/
import Derived.Test.YtbfhnfoaipaljaaDoorRdgM
namespace Go.Proofs.YtbfhnfoaipaljaaDoor
open Go.ChangeShapes Go.WideShapes Go.ChangeAt Go.RowKit Pm

abbrev F4 := Int × Int × Int × Int
def okF (f : F4) : Bool := fogOk f.1 f.2.1 f.2.2.1 f.2.2.2
def txF (f : F4) : ByteArray := fogT f.1 f.2.1 f.2.2.1 f.2.2.2
/-- The signal that three words are read as. -/
def cand3 (a b c : ByteArray) : F4 := (candK a, candB a, rsV b, numR c.data.toList)
def rd3 (s a b c : ByteArray) : F4 × Bool := if okF (cand3 a b c) = true ∧ txF (cand3 a b c) = s then (cand3 a b c, true) else ((0, 0, 0, 0), false)
def rdF (s : ByteArray) : F4 × Bool := match cutS 32 s with
  | [a, b, c] => rd3 s a b c
  | _ => ((0, 0, 0, 0), false)
theorem rdF_len {s : ByteArray} (h : (cutS 32 s).length ≠ 3) : rdF s = ((0, 0, 0, 0), false) := by
  unfold rdF
  match cutS 32 s, h with
  | [], _ => rfl
  | [_], _ => rfl
  | [_, _], _ => rfl
  | [_, _, _], h => exact absurd rfl h
  | _ :: _ :: _ :: _ :: _, _ => rfl
theorem rdF_three {s a b c : ByteArray} (h : cutS 32 s = [a, b, c]) : rdF s = rd3 s a b c := by unfold rdF; rw [h]
theorem cand_of {k b p q : Int} (h : fogOk k b p q = true) : cand3 (fogHead k b) (secT p) (decT q) = (k, b, p, q) := by
  obtain ⟨h1, ⟨p0, p1⟩, q0, q1⟩ := ok_parts h
  have lb := least_bd h1
  obtain ⟨e1, e2⟩ := cand_head h1
  obtain ⟨_, e4⟩ := num_dec (q := q) (by omega) (by omega)
  unfold cand3
  rw [e1, e2, rs_sec (by omega) p1, e4]
theorem rd_of {k b p q : Int} {s : ByteArray} (h : fogOk k b p q = true) (e : fogT k b p q = s) : rdF s = ((k, b, p, q), true) := by
  subst e
  rw [rdF_three (cut_text h)]
  unfold rd3
  rw [cand_of h, if_pos ⟨h, rfl⟩]
theorem rd3_no {s a b c : ByteArray} (h : (rd3 s a b c).2 = false) : rd3 s a b c = ((0, 0, 0, 0), false) := by
  unfold rd3 at *
  split
  · rename_i g; rw [if_pos g] at h; cases h
  · rfl
theorem rd3_yes {s a b c : ByteArray} (h : (rd3 s a b c).2 = true) : rd3 s a b c = (cand3 a b c, true) ∧ okF (cand3 a b c) = true ∧ txF (cand3 a b c) = s := by
  unfold rd3 at *
  split
  · rename_i g; exact ⟨rfl, g.1, g.2⟩
  · rename_i g; rw [if_neg g] at h; cases h
/-- Where a text is read, its words are the signal's. -/
theorem rd3_words {s a b c : ByteArray} (hw : cutS 32 s = [a, b, c]) {k l p q : Int} (h : rd3 s a b c = ((k, l, p, q), true)) : fogOk k l p q = true ∧ a = fogHead k l ∧ b = secT p ∧ c = decT q := by
  obtain ⟨e, ok, tx⟩ := rd3_yes (s := s) (a := a) (b := b) (c := c) (by rw [h])
  rw [h] at e
  have e2 : cand3 a b c = (k, l, p, q) := (Prod.mk.inj e).1.symm
  rw [e2] at ok tx
  have ct := cut_text (k := k) (b := l) (p := p) (q := q) ok
  rw [show fogT k l p q = s from tx, hw] at ct
  simp only [List.cons.injEq, and_true] at ct
  exact ⟨ok, ct.1, ct.2.1, ct.2.2⟩
theorem cut_one {c : UInt8} : ∀ {l a : List UInt8}, cutAt c l = [a] → l = a
  | [], a, h => by simp [cutAt] at h; exact h.symm
  | x :: r, a, h => by
    rw [cutAt] at h
    split at h
    · simp only [List.cons.injEq] at h; exact absurd h.2 (cutAt_ne c r)
    · cases h3 : cutAt c r with
      | nil => exact absurd h3 (cutAt_ne c r)
      | cons u v =>
        rw [h3] at h
        simp only [glue, List.cons.injEq] at h
        obtain ⟨h1, h2⟩ := h
        subst h2
        rw [← h1, cut_one h3]
theorem cut_more {c : UInt8} : ∀ {l a : List UInt8} {p : List UInt8} {ps : List (List UInt8)}, cutAt c l = a :: p :: ps → ∃ r, l = a ++ c :: r ∧ cutAt c r = p :: ps
  | [], a, p, ps, h => by simp [cutAt] at h
  | x :: r, a, p, ps, h => by
    rw [cutAt] at h
    split at h
    · rename_i hx
      simp only [List.cons.injEq] at h
      exact ⟨r, by rw [← h.1, hx]; rfl, h.2⟩
    · cases h3 : cutAt c r with
      | nil => exact absurd h3 (cutAt_ne c r)
      | cons u v =>
        rw [h3] at h
        simp only [glue, List.cons.injEq] at h
        obtain ⟨h1, h2⟩ := h
        subst h2
        obtain ⟨r', e, h4⟩ := cut_more h3
        exact ⟨r', by rw [← h1, e]; rfl, h4⟩
theorem cut_join {s a b c : ByteArray} (h : cutS 32 s = [a, b, c]) : s.data.toList = a.data.toList ++ 32 :: (b.data.toList ++ 32 :: c.data.toList) := by
  unfold cutS at h
  have e : ∀ l : List (List UInt8), (l.map (fun l => (⟨l.toArray⟩ : ByteArray))).map (fun b => b.data.toList) = l := by
    intro l
    rw [List.map_map]
    conv => rhs; rw [← List.map_id l]
    apply List.map_congr_left
    intro b _
    simp
  have h2 : cutAt 32 s.data.toList = [a.data.toList, b.data.toList, c.data.toList] := by
    have := congrArg (List.map fun b : ByteArray => b.data.toList) h
    rw [e] at this
    exact this
  obtain ⟨r, e1, h3⟩ := cut_more h2
  obtain ⟨r', e2, h4⟩ := cut_more h3
  rw [e1, e2, cut_one h4]
/-- Where a signal's words are a text's words, the text is read as that signal. -/
theorem rd3_found {s a b c : ByteArray} (hw : cutS 32 s = [a, b, c]) {k l p : Int} (hc : canB c.data.toList = true) (ok : fogOk k l p (numR c.data.toList) = true) (ha : a = fogHead k l) (hb : secT p = b) : rd3 s a b c = ((k, l, p, numR c.data.toList), true) := by
  rw [← rdF_three hw]
  refine rd_of ok (WideShapes.bytes_inj ?_)
  have hq : (decT (numR c.data.toList)).data.toList = c.data.toList := by
    rw [numR_yes hc]
    show (Lib.itoa (numV c.data.toList)).toArray.toList = _
    rw [itoa_numV hc]
  rw [cut_join hw, ha, ← hb, ← hq]
  unfold fogT
  simp only [ByteArray.data_append, Array.toList_append]
  simp [hq]
end Go.Proofs.YtbfhnfoaipaljaaDoor
