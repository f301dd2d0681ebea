/- What the search for a fog signal's text keeps. No Go in sight. -/
import Derived.Test.YtbfhnfoaipaljaaDoorRdgB
namespace Go.Proofs.YtbfhnfoaipaljaaDoor
open Go.ChangeShapes Go.WideShapes Go.ChangeAt Go.RowKit Pm

/-- Where a text is read, its words are the signal's. -/
def RdOk (r : F4 × Bool) (Q : Int) (a b : ByteArray) : Prop := ∀ k l p q, r = ((k, l, p, q), true) → fogOk k l p q = true ∧ a = fogHead k l ∧ b = secT p ∧ q = Q
def In1 (r : F4 × Bool) (k : Int) : Prop := ∀ k' l' p' q', r = ((k', l', p', q'), true) → k ≤ k'
def In2 (r : F4 × Bool) (k l : Int) : Prop := ∀ k' l' p' q', r = ((k', l', p', q'), true) → k < k' ∨ (k = k' ∧ l ≤ l')
def In3 (r : F4 × Bool) (k l p : Int) : Prop := ∀ k' l' p' q', r = ((k', l', p', q'), true) → k = k' ∧ l = l' ∧ p ≤ p'
theorem rdok_of {s a b c : ByteArray} (hw : cutS 32 s = [a, b, c]) : RdOk (rd3 s a b c) (numR c.data.toList) a b := fun k l p q h => by
  obtain ⟨ok, h1, h2, h3⟩ := rd3_words hw h
  refine ⟨ok, h1, h2, ?_⟩
  obtain ⟨_, _, q0, q1⟩ := ok_parts ok
  rw [h3, (num_dec (q := q) (by omega) (by omega)).2]
theorem head_inj {k l k' l' : Int} (h : fogShape k l = true) (h' : fogShape k' l' = true) (e : fogHead k l = fogHead k' l') : k = k' ∧ l = l' := by
  obtain ⟨a1, a2⟩ := cand_head h
  obtain ⟨b1, b2⟩ := cand_head h'
  rw [e] at a1 a2
  exact ⟨a1.symm.trans b1, a2.symm.trans b2⟩
variable {r : F4 × Bool} {Q : Int} {a b : ByteArray} {k l p : Int}
theorem RdOk.bd (h : RdOk r Q a b) {k' l' p' q' : Int} (e : r = ((k', l', p', q'), true)) : (1 ≤ k' ∧ k' ≤ 4) ∧ (1 ≤ l' ∧ l' ≤ 6) ∧ fogLeast k' l' ≤ p' ∧ p' ≤ 1200 := by
  obtain ⟨ok, _⟩ := h _ _ _ _ e
  obtain ⟨h1, h2, _⟩ := ok_parts ok
  obtain ⟨g1, g2⟩ := shape_yes h1
  exact ⟨inb_yes g1, g2, h2⟩
theorem in1_start (h : RdOk r Q a b) : In1 r 1 := fun _ _ _ _ e => (h.bd e).1.1
theorem in2_start (h : RdOk r Q a b) (i : In1 r k) : In2 r k 1 := fun _ _ _ _ e => by
  have := i _ _ _ _ e
  have := (h.bd e).2.1
  omega
theorem in2_end (h : RdOk r Q a b) (i : In2 r k l) (hl : 6 < l) : In1 r (k + 1) := fun _ _ _ _ e => by
  have := i _ _ _ _ e
  have := (h.bd e).2.1
  omega
theorem in2_ne (h : RdOk r Q a b) (i : In2 r k l) (hn : a ≠ fogHead k l) : In2 r k (l + 1) := fun k' l' p' q' e => by
  have h1 := i _ _ _ _ e
  have h2 := (h _ _ _ _ e).2.1
  have : ¬ (k = k' ∧ l = l') := fun ⟨x, y⟩ => hn (by rw [x, y]; exact h2)
  omega
theorem in3_start (h : RdOk r Q a b) (hs : fogShape k l = true) (ha : a = fogHead k l) : In3 r k l (fogLeast k l) := fun k' l' p' q' e => by
  obtain ⟨ok, h2, _⟩ := h _ _ _ _ e
  obtain ⟨rfl, rfl⟩ := head_inj hs (ok_parts ok).1 (ha.symm.trans h2)
  exact ⟨rfl, rfl, (h.bd e).2.2.1⟩
theorem in3_end (h : RdOk r Q a b) (i : In3 r k l p) (hp : 1200 < p) : In2 r k (l + 1) := fun k' l' p' q' e => by
  have h1 := i _ _ _ _ e
  have h2 := h.bd e
  omega
theorem in3_ne (h : RdOk r Q a b) (i : In3 r k l p) (hp : secT p ≠ b) : In3 r k l (p + 1) := fun k' l' p' q' e => by
  have h1 := i _ _ _ _ e
  have h2 := (h _ _ _ _ e).2.2.1
  have : p ≠ p' := fun x => hp (by rw [x]; exact h2.symm)
  omega
theorem in3_no (h : RdOk r Q a b) (i : In3 r k l p) (hp : fogOk k l p Q = false) : In3 r k l (p + 1) := fun k' l' p' q' e => by
  obtain ⟨rfl, rfl, h1⟩ := i _ _ _ _ e
  obtain ⟨ok, _, _, rfl⟩ := h _ _ _ _ e
  have : p ≠ p' := fun x => by subst x; rw [hp] at ok; cases ok
  omega
theorem in1_end (h : RdOk r Q a b) (i : In1 r k) (hk : 4 < k) : r.2 = false := by
  cases e : r.2
  · rfl
  · obtain ⟨⟨k', l', p', q'⟩, y⟩ := r
    simp only at e
    subst e
    have := i _ _ _ _ rfl
    have := (h.bd rfl).1
    omega
theorem shape_in (k0 : 1 ≤ k) (k1 : k ≤ 4) (l0 : 1 ≤ l) (l1 : l ≤ 6) : fogShape k l = true := by
  unfold fogShape
  rw [inb_in ⟨k0, k1⟩, inb_in ⟨l0, l1⟩]; rfl
/-- A text whose last word is no number is not read. -/
theorem rd3_bad {s a b c : ByteArray} (hw : cutS 32 s = [a, b, c]) (hc : canB c.data.toList = false) : rd3 s a b c = ((0, 0, 0, 0), false) := by
  refine rd3_no ?_
  cases h : (rd3 s a b c).2
  · rfl
  · obtain ⟨e, _, _⟩ := rd3_yes h
    obtain ⟨ok, _, _, h3⟩ := rd3_words (k := (cand3 a b c).1) (l := (cand3 a b c).2.1) (p := (cand3 a b c).2.2.1) (q := (cand3 a b c).2.2.2) hw e
    obtain ⟨_, _, q0, q1⟩ := ok_parts ok
    have := (num_dec (q := (cand3 a b c).2.2.2) (by omega) (by omega)).1
    rw [← h3, hc] at this
    cases this
end Go.Proofs.YtbfhnfoaipaljaaDoor
