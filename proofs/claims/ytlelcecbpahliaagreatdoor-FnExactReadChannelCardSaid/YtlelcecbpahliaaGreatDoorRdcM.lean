/- Reading a channel's text. No Go in sight. -/
import Derived.Test.YtlelcecbpahliaaGreatDoorCtxM
import Derived.Test.YtlelcecbpahliaaGreatDoorTxtM
import Derived.Test.YtlelcecbpahliaaGreatDoorRdPtS
namespace Go.Proofs.YtlelcecbpahliaaGreatDoor
open Go.ChangeShapes Go.WideShapes Go.ChangeAt Go.RowKit Pm

theorem cutj_one {c : UInt8} : ∀ {l a : List UInt8}, cutAt c l = [a] → l = a
  | [], a, h => by simp [cutAt] at h; exact h.symm
  | x :: r, a, h => by
    rw [cutAt] at h
    split at h
    · simp only [List.cons.injEq] at h; exact absurd h.2 (cutAt_ne c r)
    · cases h3 : cutAt c r with
      | nil => exact absurd h3 (cutAt_ne c r)
      | cons u v =>
        rw [h3] at h
        simp only [glue, List.cons.injEq] at h
        obtain ⟨h1, h2⟩ := h
        subst h2
        rw [← h1, cutj_one h3]
theorem cutj_more {c : UInt8} : ∀ {l a : List UInt8} {p : List UInt8} {ps : List (List UInt8)}, cutAt c l = a :: p :: ps → ∃ r, l = a ++ c :: r ∧ cutAt c r = p :: ps
  | [], a, p, ps, h => by simp [cutAt] at h
  | x :: r, a, p, ps, h => by
    rw [cutAt] at h
    split at h
    · rename_i hx
      simp only [List.cons.injEq] at h
      exact ⟨r, by rw [← h.1, hx]; rfl, h.2⟩
    · cases h3 : cutAt c r with
      | nil => exact absurd h3 (cutAt_ne c r)
      | cons u v =>
        rw [h3] at h
        simp only [glue, List.cons.injEq] at h
        obtain ⟨h1, h2⟩ := h
        subst h2
        obtain ⟨r', e, h4⟩ := cutj_more h3
        exact ⟨r', by rw [← h1, e]; rfl, h4⟩
theorem join_cut {c : UInt8} : ∀ {ws : List (List UInt8)} {l : List UInt8}, cutAt c l = ws → Lib.join ws [c] = l
  | [], l, h => absurd h (cutAt_ne c l)
  | [a], l, h => by rw [Lib.join_one, cutj_one h]
  | a :: p :: ps, l, h => by
    obtain ⟨r, e, h2⟩ := cutj_more h
    have := join_cut h2
    rw [e, ← this]
    simp [Lib.join_cons, Lib.joinTail]
theorem cut_joined {c : UInt8} : ∀ {ws : List (List UInt8)}, ws ≠ [] → (∀ x ∈ ws, c ∉ x) → cutAt c (Lib.join ws [c]) = ws
  | [], h, _ => absurd rfl h
  | [a], _, h => by rw [Lib.join_one, cutAt_miss _ _ (h a (by simp))]
  | a :: b :: r, _, h => by
    have := cut_joined (c := c) (ws := b :: r) (by simp) (fun x hx => h x (by simp at hx ⊢; exact .inr hx))
    rw [show Lib.join (a :: b :: r) [c] = a ++ c :: Lib.join (b :: r) [c] by simp [Lib.join_cons, Lib.joinTail], cutAt_hit _ _ _ (h a (by simp)), this]
theorem arr_id (l : List (List UInt8)) : (l.map (fun l => (⟨l.toArray⟩ : ByteArray))).map (fun b => b.data.toList) = l := by
  rw [List.map_map]
  conv => rhs; rw [← List.map_id l]
  apply List.map_congr_left
  intro b _
  simp
theorem cutS_at (c : UInt8) (s : ByteArray) : (cutS c s).map (fun b => b.data.toList) = cutAt c s.data.toList := by unfold cutS; rw [arr_id]
theorem joined_is (s : ByteArray) : Lib.join ((cutS 32 s).map (·.data.toList)) [32] = s.data.toList := join_cut (c := 32) (by rw [← cutS_at])
theorem rp_two (p q : ByteArray) : rpV [p, q] = if (canB p.data.toList && canB q.data.toList && inB 0 200000 [numP p, numP q]) = true then ((numP p, numP q), true) else ((0, 0), false) := rfl
/-- A word read as a point. -/
def ptR (w : ByteArray) : (Int × Int) × Bool := rpV (cutS 44 w)
def ptD (w : ByteArray) : Int × Int := (ptR w).1
theorem ptR_yes {w : ByteArray} (h : (ptR w).2 = true) : okB (ptD w) = true ∧ ptText (ptD w).1 (ptD w).2 = w := by
  unfold ptD
  unfold ptR at *
  match hc : cutS 44 w, h with
  | [p, q], h =>
    rw [rp_two] at h ⊢
    by_cases h3 : (canB p.data.toList && canB q.data.toList && inB 0 200000 [numP p, numP q]) = true
    · rw [if_pos h3]
      simp only [Bool.and_eq_true] at h3
      obtain ⟨⟨c1, c2⟩, c3⟩ := h3
      refine ⟨c3, ?_⟩
      show ptText (numP p) (numP q) = w
      unfold ptText
      rw [if_pos c3]
      refine WideShapes.bytes_inj ?_
      have hj := join_cut (c := 44) (l := w.data.toList) (by rw [← cutS_at])
      rw [hc] at hj
      rw [← hj]
      show (jn [numP p, numP q]) = _
      rw [jn_two, jn_one]
      have e1 : Lib.itoa (numP p) = p.data.toList := by unfold numP; rw [numR_yes c1, itoa_numV c1]
      have e2 : Lib.itoa (numP q) = q.data.toList := by unfold numP; rw [numR_yes c2, itoa_numV c2]
      rw [e1, e2]
      simp [Lib.join_cons, Lib.joinTail]
    · rw [if_neg h3] at h; cases h
  | [], h => rw [rp_no _ (by simp)] at h; cases h
  | [_], h => rw [rp_no _ (by simp)] at h; cases h
  | _ :: _ :: _ :: _, h => rw [rp_no _ (by simp)] at h; cases h
theorem ptR_no {w : ByteArray} (h : (ptR w).2 = false) : ptD w = (0, 0) := by
  unfold ptD
  unfold ptR at *
  match hc : cutS 44 w, h with
  | [p, q], h =>
    rw [rp_two] at h ⊢
    by_cases h3 : (canB p.data.toList && canB q.data.toList && inB 0 200000 [numP p, numP q]) = true
    · rw [if_pos h3] at h; cases h
    · rw [if_neg h3]
  | [], h => rw [rp_no _ (by simp)]
  | [_], h => rw [rp_no _ (by simp)]
  | _ :: _ :: _ :: _, h => rw [rp_no _ (by simp)]
theorem ptR_text {p : Int × Int} (h : okB p = true) : ptR (ptText p.1 p.2) = (p, true) := by
  have h2 : inB 0 200000 [p.1, p.2] = true := h
  obtain ⟨⟨x0, x1⟩, y0, y1⟩ : (0 ≤ p.1 ∧ p.1 ≤ 200000) ∧ 0 ≤ p.2 ∧ p.2 ≤ 200000 := by simpa [inB] using h2
  obtain ⟨c1, n1⟩ := can_in (z := p.1) (by omega) (by omega)
  obtain ⟨c2, n2⟩ := can_in (z := p.2) (by omega) (by omega)
  have hc := cut_jn [p.1, p.2] (by simp) (by intro z hz; simp at hz; rcases hz with rfl | rfl; exact c1; exact c2)
  have e : cutS 44 (ptText p.1 p.2) = [⟨(Lib.itoa p.1).toArray⟩, ⟨(Lib.itoa p.2).toArray⟩] := by
    unfold cutS
    rw [ptText_yes h2]
    show (cutAt 44 (jn [p.1, p.2])).map _ = _
    rw [hc]; rfl
  unfold ptR
  rw [e]
  unfold rpV numP
  simp only [n1, n2, c1, c2, h2, Bool.and_self, if_true]
/-! Words without a blank. -/
theorem body_not {l : List UInt8} (h : canB l = true) : (32 : UInt8) ∉ l := by
  obtain ⟨_, _, _, hd⟩ := canB_out h
  have hb : (32 : UInt8) ∉ body l := by
    intro hm
    have := List.all_eq_true.1 hd _ hm
    revert this; decide
  unfold body at hb
  split at hb
  · rename_i hh
    cases l with
    | nil => simp at hh
    | cons c r =>
      simp at hh
      subst hh
      rw [List.mem_cons, not_or]
      exact ⟨by decide, by simpa using hb⟩
  · exact hb
theorem ptText_not {p : Int × Int} (h : okB p = true) : (32 : UInt8) ∉ (ptText p.1 p.2).data.toList := by
  have h2 : inB 0 200000 [p.1, p.2] = true := h
  obtain ⟨⟨x0, x1⟩, y0, y1⟩ : (0 ≤ p.1 ∧ p.1 ≤ 200000) ∧ 0 ≤ p.2 ∧ p.2 ≤ 200000 := by simpa [inB] using h2
  rw [ptText_yes h2]
  show (32 : UInt8) ∉ jn [p.1, p.2]
  rw [jn_two, jn_one]
  have a1 := body_not (can_in (z := p.1) (by omega) (by omega)).1
  have a2 := body_not (can_in (z := p.2) (by omega) (by omega)).1
  simp [a1, a2]
theorem name_not {s : ByteArray} (h : nameB s.data.toList = true) : (32 : UInt8) ∉ s.data.toList := by
  unfold nameB at h
  simp only [Bool.and_eq_true] at h
  intro hm
  have := List.all_eq_true.1 h.2 _ hm
  revert this; decide
/-- What a text is read as. -/
def rdcB (s : ByteArray) : Bool := match cutS 32 s with
  | a :: b :: r => decide (2 ≤ r.length) && (canB b.data.toList && (r.all (fun w => (ptR w).2) && okC a (r.map ptD) (numR b.data.toList)))
  | _ => false
theorem rdcB_eq {s a b : ByteArray} {r : List ByteArray} (h : cutS 32 s = a :: b :: r) (h2 : 2 ≤ r.length) : rdcB s = (canB b.data.toList && (r.all (fun w => (ptR w).2) && okC a (r.map ptD) (numR b.data.toList))) := by
  unfold rdcB; rw [h]; simp [h2]
theorem rdcB_short {s : ByteArray} (h : (cutS 32 s).length < 4) : rdcB s = false := by
  unfold rdcB
  split
  · rename_i a b r e
    rw [e] at h
    have : ¬ 2 ≤ r.length := by simp at h; omega
    simp [this]
  · rfl
theorem rdcB_long {s : ByteArray} (h : 14 < (cutS 32 s).length) : rdcB s = false := by
  unfold rdcB
  split
  · rename_i a b r e
    rw [e] at h
    have h3 : 12 < r.length := by simp at h; omega
    have : okC a (r.map ptD) (numR b.data.toList) = false := by
      cases e : okC a (r.map ptD) (numR b.data.toList)
      · rfl
      · have := (okC_parts e).2.2.1; rw [List.length_map] at this; omega
    rw [this]; simp
  · rfl
theorem map_ok {r : List ByteArray} (h : r.all (fun w => (ptR w).2) = true) : (r.map ptD).map (fun p => ptText p.1 p.2) = r := by
  rw [List.map_map]
  conv => rhs; rw [← List.map_id r]
  apply List.map_congr_left
  intro w hw
  exact (ptR_yes (List.all_eq_true.1 h w hw)).2
/-- The text of what was read is the text just where it is a channel's. -/
theorem rdc_iff {s a b : ByteArray} {r : List ByteArray} (h : cutS 32 s = a :: b :: r) (h2 : 2 ≤ r.length) : (ctxT a (numR b.data.toList) (r.map ptD) = s) ↔ rdcB s = true := by
  rw [rdcB_eq h h2]
  constructor
  · intro ht
    cases hok : okC a (r.map ptD) (numR b.data.toList)
    · exfalso
      unfold ctxT at ht
      rw [hok] at ht
      have : s = ⟨#[]⟩ := by rw [← ht]; rfl
      rw [this] at h
      have e : cutS 32 (⟨#[]⟩ : ByteArray) = [⟨#[]⟩] := rfl
      rw [e] at h
      simp at h
    · obtain ⟨_, _, _, hp, z0, z1, _⟩ := okC_parts hok
      have hb : canB b.data.toList = true := by
        cases e : canB b.data.toList
        · rw [numR_no e] at z0; omega
        · rfl
      have hname : nameB a.data.toList = true := by
        unfold okC at hok; simp only [Bool.and_eq_true] at hok; exact hok.1
      have hall : r.all (fun w => (ptR w).2) = true := by
        have hs : s.data.toList = ctxJ a (numR b.data.toList) (r.map ptD) := by
          unfold ctxT at ht
          rw [hok] at ht
          rw [← ht]; rfl
        have hcut : cutAt 32 s.data.toList = (ctxL a (numR b.data.toList) (r.map ptD)).map (·.data.toList) := by
          rw [hs]
          unfold ctxJ
          refine cut_joined (by simp [ctxL]) (fun x hx => ?_)
          simp only [ctxL, List.map_cons, List.mem_cons, List.mem_map] at hx
          rcases hx with rfl | rfl | ⟨y, ⟨p, hp1, rfl⟩, rfl⟩
          · exact name_not hname
          · exact body_not (can_in (z := numR b.data.toList) (by omega) (by omega)).1
          · refine ptText_not ?_
            obtain ⟨i, hi, rfl⟩ := List.getElem_of_mem (List.mem_map.2 hp1)
            rw [← pt_getD _ i hi]
            exact hp i hi
        have hw : cutS 32 s = ctxL a (numR b.data.toList) (r.map ptD) := by
          have e1 : ∀ l : List ByteArray, (l.map (·.data.toList)).map (fun l => (⟨l.toArray⟩ : ByteArray)) = l := by
            intro l
            rw [List.map_map]
            conv => rhs; rw [← List.map_id l]
            apply List.map_congr_left
            intro x _
            rfl
          unfold cutS
          rw [hcut, e1]
        rw [h] at hw
        simp only [ctxL, List.cons.injEq] at hw
        obtain ⟨_, _, hr⟩ := hw
        rw [List.all_eq_true]
        intro w hwm
        cases e : (ptR w).2
        · exfalso
          obtain ⟨i, hi, rfl⟩ := List.getElem_of_mem hwm
          have e3 : r[i] = ptText (ptD r[i]).1 (ptD r[i]).2 := by
            have : r[i]? = (List.map (fun p => ptText p.1 p.2) (List.map ptD r))[i]? := by rw [← hr]
            simpa [hi] using this
          rw [ptR_no e] at e3
          have e4 := ptR_text (p := (0, 0)) rfl
          rw [← e3] at e4
          rw [e4] at e
          cases e
        · rfl
      rw [hb, hall]; rfl
  · intro hb
    simp only [Bool.and_eq_true] at hb
    obtain ⟨hb, hall, hok⟩ := hb
    unfold ctxT
    rw [hok, if_pos rfl]
    refine WideShapes.bytes_inj ?_
    show ctxJ a (numR b.data.toList) (r.map ptD) = s.data.toList
    rw [← joined_is s, h]
    unfold ctxJ ctxL
    rw [map_ok hall]
    have e : (itoaS (numR b.data.toList)) = b := WideShapes.bytes_inj (by
      show Lib.itoa (numR b.data.toList) = b.data.toList
      rw [numR_yes hb, itoa_numV hb])
    rw [e]
end Go.Proofs.YtlelcecbpahliaaGreatDoor
