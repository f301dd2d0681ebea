/- Simple lists of sectors: the model's and the program's are one (plain Lean). -/
import Derived.Test.YtlelcecbpahliaaGreatDoorSecM
namespace Go.Proofs.YtlelcecbpahliaaGreatDoor

/-- Two texts are one. -/
def sB (a b : ByteArray) : Bool := a.toList == b.toList
theorem sB_iff {a b : ByteArray} : sB a b = true ↔ a = b := by
  obtain ⟨⟨x⟩⟩ := a
  obtain ⟨⟨y⟩⟩ := b
  simp [sB, ByteArray.toList_eq]
theorem sB_no {a b : ByteArray} : sB a b = false ↔ a ≠ b := by
  rw [← Bool.not_eq_true, sB_iff]
/-- The first bearing, from d on, that has another color (counted on, over north). -/
def IsEnd (c : Nat → ByteArray) (d t : Nat) : Prop := d ≤ t ∧ (∀ j, d ≤ j → j < t → c (j % 360) = c d) ∧ c (t % 360) ≠ c d
theorem IsEnd.uniq {c : Nat → ByteArray} {d t u : Nat} (h : IsEnd c d t) (k : IsEnd c d u) : t = u := by
  rcases Nat.lt_trichotomy t u with e | e | e
  · exact absurd (k.2.1 t h.1 e) h.2.2
  · exact e
  · exact absurd (h.2.1 u k.1 e) k.2.2
open Classical in
noncomputable def endAt (c : Nat → ByteArray) (d : Nat) : Nat := if h : ∃ t, IsEnd c d t then h.choose else d
theorem endAt_is {c : Nat → ByteArray} {d t : Nat} (h : IsEnd c d t) : endAt c d = t := by
  have hx : ∃ t, IsEnd c d t := ⟨t, h⟩
  unfold endAt
  rw [dif_pos hx]
  exact hx.choose_spec.uniq h
/-- A bearing with another color than the one before it. -/
def chg (c : Nat → ByteArray) (d : Nat) : Bool := !sB (c ((d + 359) % 360)) (c d)
def drk (s : ByteArray) : Bool := s.toList.isEmpty
/-- The arcs as the model lays them. -/
noncomputable def arcsOf (c : Nat → ByteArray) (dark : Bool) (k : Nat) : List Sec := ((List.range k).filter fun d => (drk (c d) == dark) && chg c d).map fun (d : Nat) => ((d : Int), ((endAt c d % 360 : Nat) : Int), c d)
def sameAll (c : Nat → ByteArray) (k : Nat) : Bool := (List.range k).all fun d => sB (c d) (c 0)
noncomputable def simpV (c : Nat → ByteArray) (dark : Bool) : List Sec :=
  if (arcsOf c dark 360).length = 0 ∧ drk (c 0) = dark ∧ sameAll c 360 = true then [(0, 0, c 0)] else arcsOf c dark 360
/-- The program's beginnings. -/
def begs (c : Nat → ByteArray) (k : Nat) : List Nat := (List.range k).filter (chg c)
/-- The program's arcs. -/
def arcP (c : Nat → ByteArray) : List Sec :=
  if begs c 360 = [] then [(0, 0, c 0)] else (List.range (begs c 360).length).map fun (i : Nat) => ((((begs c 360).getD i 0 : Nat) : Int), (((begs c 360).getD ((i + 1) % (begs c 360).length) 0 : Nat) : Int), c ((begs c 360).getD i 0))
theorem arcsOf_step (c : Nat → ByteArray) (dark : Bool) (k : Nat) : arcsOf c dark (k + 1) = if ((drk (c k) == dark) && chg c k) = true then arcsOf c dark k ++ [((k : Int), ((endAt c k % 360 : Nat) : Int), c k)] else arcsOf c dark k := by
  unfold arcsOf
  rw [List.range_succ, List.filter_append]
  cases h : ((drk (c k) == dark) && chg c k) <;> simp [h]
theorem begs_step (c : Nat → ByteArray) (k : Nat) : begs c (k + 1) = if chg c k = true then begs c k ++ [k] else begs c k := by
  unfold begs
  rw [List.range_succ, List.filter_append]
  cases h : chg c k <;> simp [h]
theorem begs_mem {c : Nat → ByteArray} {k d : Nat} : d ∈ begs c k ↔ d < k ∧ chg c d = true := by simp [begs]
theorem begs_lt {c : Nat → ByteArray} {k i j : Nat} (hij : i < j) (hj : j < (begs c k).length) : (begs c k).getD i 0 < (begs c k).getD j 0 := by
  have hp : (begs c k).Pairwise (· < ·) := List.Pairwise.filter _ List.pairwise_lt_range
  have := List.pairwise_iff_getElem.1 hp i j (by omega) hj hij
  simpa [show i < (begs c k).length by omega, hj] using this
theorem begs_at {c : Nat → ByteArray} {k i : Nat} (hi : i < (begs c k).length) : (begs c k).getD i 0 < k ∧ chg c ((begs c k).getD i 0) = true := by
  have h : (begs c k).getD i 0 ∈ begs c k := by
    simp [hi]
  exact begs_mem.1 h
theorem begs_idx {c : Nat → ByteArray} {k d : Nat} (h : d < k) (hc : chg c d = true) : ∃ i, i < (begs c k).length ∧ (begs c k).getD i 0 = d := by
  obtain ⟨i, hi, e⟩ := List.getElem_of_mem (begs_mem.2 ⟨h, hc⟩)
  exact ⟨i, hi, by simpa [hi] using e⟩
theorem chg_no {c : Nat → ByteArray} {d : Nat} (h : chg c d = false) : c ((d + 359) % 360) = c d := by
  rw [← sB_iff]; simpa [chg] using h
theorem chg_yes {c : Nat → ByteArray} {d : Nat} (h : chg c d = true) : c ((d + 359) % 360) ≠ c d := by
  rw [← sB_no]; simpa [chg] using h
/-- No change from d on, for n steps: one color. -/
theorem no_chg {c : Nat → ByteArray} {d : Nat} (hd : d < 360) : ∀ n, (∀ j, d < j → j ≤ d + n → chg c (j % 360) = false) → c ((d + n) % 360) = c d
  | 0, _ => by rw [Nat.add_zero, Nat.mod_eq_of_lt hd]
  | n + 1, h => by
    have ih := no_chg hd n (fun j h1 h2 => h j h1 (by omega))
    have := chg_no (h (d + (n + 1)) (by omega) (Nat.le_refl _))
    rw [show ((d + (n + 1)) % 360 + 359) % 360 = (d + n) % 360 by omega] at this
    rw [← this, ih]
/-- The end of an arc is where the next change is. -/
theorem end_next {c : Nat → ByteArray} {d t : Nat} (hd : d < 360) (ht : d < t) (hno : ∀ j, d < j → j < t → chg c (j % 360) = false) (hch : chg c (t % 360) = true) : IsEnd c d t := by
  have hc : ∀ j, d ≤ j → j < t → c (j % 360) = c d := fun j h1 h2 => by
    have := no_chg hd (j - d) (fun i h3 h4 => hno i h3 (by omega))
    rwa [show d + (j - d) = j by omega] at this
  refine ⟨Nat.le_of_lt ht, hc, ?_⟩
  have h1 := hc (t - 1) (by omega) (by omega)
  have h2 := chg_yes hch
  rw [show (t % 360 + 359) % 360 = (t - 1) % 360 by omega, h1] at h2
  exact fun e => h2 e.symm
theorem end_begs {c : Nat → ByteArray} {i : Nat} (hi : i < (begs c 360).length) : endAt c ((begs c 360).getD i 0) % 360 = (begs c 360).getD ((i + 1) % (begs c 360).length) 0 := by
  obtain ⟨b1, b2⟩ := begs_at hi
  by_cases e : i + 1 < (begs c 360).length
  · obtain ⟨n1, n2⟩ := begs_at e
    have hlt := begs_lt (show i < i + 1 by omega) e
    rw [Nat.mod_eq_of_lt e]
    have hE : IsEnd c ((begs c 360).getD i 0) ((begs c 360).getD (i + 1) 0) := by
      refine end_next b1 hlt (fun j h1 h2 => ?_) (by rw [Nat.mod_eq_of_lt n1]; exact n2)
      rw [Nat.mod_eq_of_lt (by omega)]
      cases hc : chg c j
      · rfl
      · obtain ⟨m, hm, rfl⟩ := begs_idx (show j < 360 by omega) hc
        rcases Nat.lt_trichotomy m i with q | q | q
        · have := begs_lt q hi; omega
        · subst q; omega
        · by_cases q2 : m = i + 1
          · subst q2; omega
          · have := begs_lt (show i + 1 < m by omega) hm; omega
    rw [endAt_is hE, Nat.mod_eq_of_lt n1]
  · obtain ⟨z1, z2⟩ := begs_at (show 0 < (begs c 360).length by omega)
    have e2 : i + 1 = (begs c 360).length := by omega
    rw [e2, Nat.mod_self]
    have hE : IsEnd c ((begs c 360).getD i 0) ((begs c 360).getD 0 0 + 360) := by
      refine end_next b1 (by omega) (fun j h1 h2 => ?_) (by rw [Nat.add_mod_right, Nat.mod_eq_of_lt z1]; exact z2)
      cases hc : chg c (j % 360)
      · rfl
      · obtain ⟨m, hm, hmj⟩ := begs_idx (show j % 360 < 360 from Nat.mod_lt _ (by omega)) hc
        have hle : (begs c 360).getD m 0 ≤ (begs c 360).getD i 0 := by
          by_cases q : m = i
          · rw [q]; exact Nat.le_refl _
          · exact Nat.le_of_lt (begs_lt (show m < i by omega) hi)
        have hge : (begs c 360).getD 0 0 ≤ (begs c 360).getD m 0 := by
          by_cases q : m = 0
          · rw [q]; exact Nat.le_refl _
          · exact Nat.le_of_lt (begs_lt (show 0 < m by omega) hm)
        omega
    rw [endAt_is hE, Nat.add_mod_right, Nat.mod_eq_of_lt z1]
theorem map_getD {α : Type} (l : List Nat) (f : Nat → α) : (List.range l.length).map (fun i => f (l.getD i 0)) = l.map f := by
  apply List.ext_getElem
  · simp
  · intro i h1 h2
    simp at h1 h2 ⊢
    simp [h1]
theorem arcP_some {c : Nat → ByteArray} (h : begs c 360 ≠ []) : arcP c = (begs c 360).map fun (d : Nat) => ((d : Int), ((endAt c d % 360 : Nat) : Int), c d) := by
  unfold arcP
  rw [if_neg h, ← map_getD (begs c 360) fun (d : Nat) => ((d : Int), ((endAt c d % 360 : Nat) : Int), c d)]
  apply List.map_congr_left
  intro i hi
  rw [end_begs (List.mem_range.1 hi)]
theorem begs_nil {c : Nat → ByteArray} (h : begs c 360 = []) : ∀ d, d < 360 → c d = c 0 := by
  intro d hd
  have := no_chg (c := c) (d := 0) (by omega) d (fun j _ h2 => by
    cases hc : chg c (j % 360)
    · rfl
    · have := (begs_mem (c := c)).2 ⟨Nat.mod_lt j (show 0 < 360 by omega), hc⟩
      rw [h] at this; cases this)
  rwa [Nat.zero_add, Nat.mod_eq_of_lt hd] at this
theorem arcsOf_begs (c : Nat → ByteArray) (dark : Bool) : arcsOf c dark 360 = ((begs c 360).map fun (d : Nat) => ((d : Int), ((endAt c d % 360 : Nat) : Int), c d)).filter fun p => drk p.2.2 == dark := by
  unfold arcsOf begs
  rw [List.filter_map, List.filter_filter]
  rfl
/-- What the program keeps of its arcs is the model's simple list. -/
theorem simple_is (c : Nat → ByteArray) (dark : Bool) : (arcP c).filter (fun p => drk p.2.2 == dark) = simpV c dark := by
  by_cases h : begs c 360 = []
  · have hs := begs_nil h
    have ha : arcsOf c dark 360 = [] := by rw [arcsOf_begs, h]; rfl
    have hsame : sameAll c 360 = true := by
      unfold sameAll; rw [List.all_eq_true]; intro d hd; rw [hs d (List.mem_range.1 hd)]; exact sB_iff.2 rfl
    unfold simpV arcP
    rw [if_pos h, ha]
    cases e : (drk (c 0) == dark)
    · have : drk (c 0) ≠ dark := by simpa using e
      rw [if_neg (by intro hx; exact this hx.2.1)]
      simp [e]
    · have : drk (c 0) = dark := by simpa using e
      rw [if_pos ⟨rfl, this, hsame⟩]
      simp [e]
  · rw [arcP_some h]
    unfold simpV
    rw [← arcsOf_begs]
    rw [if_neg]
    rintro ⟨_, _, h3⟩
    apply h
    unfold sameAll at h3
    rw [List.all_eq_true] at h3
    apply List.eq_nil_iff_forall_not_mem.2
    intro d hd
    obtain ⟨h1, h2⟩ := begs_mem.1 hd
    have e1 : c d = c 0 := sB_iff.1 (h3 d (List.mem_range.2 h1))
    have e2 : c ((d + 359) % 360) = c 0 := sB_iff.1 (h3 ((d + 359) % 360) (List.mem_range.2 (Nat.mod_lt _ (by omega))))
    exact chg_yes h2 (by rw [e1, e2])
/-- All bearings have the color of the one before them: no beginning. -/
theorem begs_none {c : Nat → ByteArray} : begs c 360 = [] ↔ ∀ d, d < 360 → c ((d + 359) % 360) = c d := by
  constructor
  · intro h d hd
    cases hc : chg c d
    · exact chg_no hc
    · have := (begs_mem (c := c)).2 ⟨hd, hc⟩
      rw [h] at this; cases this
  · intro h
    apply List.eq_nil_iff_forall_not_mem.2
    intro d hd
    obtain ⟨h1, h2⟩ := begs_mem.1 hd
    exact chg_yes h2 (h d h1)
end Go.Proofs.YtlelcecbpahliaaGreatDoor
