/- Numbers and their decimal forms of at most 18 digits: which texts are forms, and of which number. No Go in sight. -/
import Derived.Lib.ItoaNum
import Derived.Lib.ItoaMem
import Derived.Lib.ParseIntB
namespace Go.Proofs.YtlelcecbpahliaaGreatDoor.Pm
open Go

def isD (c : UInt8) : Bool := decide (48 ≤ c.toNat) && decide (c.toNat ≤ 57)
theorem isD_iff {c : UInt8} : isD c = true ↔ 48 ≤ c.toNat ∧ c.toNat ≤ 57 := by simp [isD]

/-- The value of digits behind a value. -/
def stepD (acc : Nat) (c : UInt8) : Nat := acc * 10 + (c.toNat - 48)
def dv (acc : Nat) (t : List UInt8) : Nat := t.foldl stepD acc

theorem dv_nil (acc : Nat) : dv acc [] = acc := rfl
theorem dv_cons (acc : Nat) (c : UInt8) (r : List UInt8) : dv acc (c :: r) = dv (acc * 10 + (c.toNat - 48)) r := by
  show List.foldl stepD (stepD acc c) r = List.foldl stepD (acc * 10 + (c.toNat - 48)) r
  rw [stepD]

theorem dv_snoc (acc : Nat) (t : List UInt8) (c : UInt8) : dv acc (t ++ [c]) = dv acc t * 10 + (c.toNat - 48) := by
  unfold dv
  rw [List.foldl_append, List.foldl_cons, List.foldl_nil, stepD]

theorem dv_mono (acc : Nat) (t : List UInt8) : acc ≤ dv acc t := by
  induction t generalizing acc with
  | nil => exact Nat.le_refl _
  | cons a t ih => rw [dv_cons]; exact Nat.le_trans (by omega) (ih _)

theorem dv_lt (acc : Nat) (t : List UInt8) (h : t.all isD = true) : dv acc t < (acc + 1) * 10 ^ t.length := by
  induction t generalizing acc with
  | nil => show acc < (acc + 1) * 1; omega
  | cons a t ih =>
    simp only [List.all_cons, Bool.and_eq_true] at h
    have ha := isD_iff.1 h.1
    have h1 := ih (acc * 10 + (a.toNat - 48)) h.2
    rw [dv_cons]
    rw [List.length_cons, Nat.pow_succ]
    generalize 10 ^ t.length = p at h1 ⊢
    have h2 : (acc * 10 + (a.toNat - 48) + 1) * p ≤ ((acc + 1) * 10) * p := Nat.mul_le_mul_right _ (by omega)
    have h3 : ((acc + 1) * 10) * p = (acc + 1) * (p * 10) := by rw [Nat.mul_assoc, Nat.mul_comm 10 p]
    rw [← h3]
    exact Nat.lt_of_lt_of_le h1 h2

theorem digit_nat (d : Nat) (h : d < 10) : (UInt8.ofNat (48 + d)).toNat = 48 + d := by
  rw [UInt8.toNat_ofNat']; omega

theorem one_facts (c : UInt8) (u : Nat) (hd : c.toNat = 48 + u) (h10 : u < 10) : dv 0 [c] = u ∧ [c].all isD = true ∧ [c] ≠ [] ∧ ([c].head? = some 48 → u = 0) := by
  have hc : isD c = true := by rw [isD_iff, hd]; omega
  refine ⟨?_, ?_, ?_, ?_⟩
  · rw [dv_cons, dv_nil]
    omega
  · simp [hc]
  · simp
  · intro e
    have e1 : c = 48 := by simpa using e
    have h48 : (48 : UInt8).toNat = 48 := rfl
    rw [e1, h48] at hd
    omega

theorem dec_small (u : Nat) (h10 : u < 10) : dv 0 (Lib.decDigits u) = u ∧ (Lib.decDigits u).all isD = true ∧ Lib.decDigits u ≠ [] ∧ ((Lib.decDigits u).head? = some 48 → u = 0) := by
  rw [Lib.decDigits_one h10]
  exact one_facts _ u (digit_nat u h10) h10

theorem dec_facts : ∀ (k u : Nat), u ≤ k → dv 0 (Lib.decDigits u) = u ∧ (Lib.decDigits u).all isD = true ∧ Lib.decDigits u ≠ [] ∧ ((Lib.decDigits u).head? = some 48 → u = 0) := by
  intro k
  induction k with
  | zero =>
    intro u h
    exact dec_small u (by omega)
  | succ k ih =>
    intro u h
    by_cases h10 : u < 10
    · exact dec_small u h10
    · obtain ⟨i1, i2, i3, i4⟩ := ih (u / 10) (by omega)
      have hd := digit_nat (u % 10) (by omega)
      rw [Lib.decDigits, dif_neg h10]
      refine ⟨by rw [dv_snoc, i1, hd]; omega, ?_, by simp, fun e => ?_⟩
      · rw [List.all_append, i2]
        simp only [List.all_cons, List.all_nil, Bool.and_true, Bool.true_and]
        rw [isD_iff, hd]; omega
      · rw [List.head?_append] at e
        cases hh : (Lib.decDigits (u / 10)).head? with
        | none => exact absurd (List.head?_eq_none_iff.1 hh) i3
        | some x =>
          rw [hh] at e
          have := i4 (by rw [hh]; exact e)
          omega

theorem dec_len : ∀ (k u : Nat), 1 ≤ k → u < 10 ^ k → (Lib.decDigits u).length ≤ k := by
  intro k
  induction k with
  | zero => intro u h; omega
  | succ k ih =>
    intro u _ h
    by_cases h10 : u < 10
    · rw [Lib.decDigits_one h10]; simp
    · have hk : 1 ≤ k := by
        rcases Nat.eq_zero_or_pos k with e | e
        · subst e; simp at h; omega
        · exact e
      rw [Lib.decDigits, dif_neg h10, List.length_append]
      have := ih (u / 10) hk (by rw [Nat.pow_succ] at h; omega)
      simp only [List.length_cons, List.length_nil]; omega

theorem dec_of : ∀ (k : Nat) (t : List UInt8), t.length ≤ k → t ≠ [] → t.all isD = true → (t.head? = some 48 → t.length = 1) → Lib.decDigits (dv 0 t) = t := by
  intro k
  induction k with
  | zero => intro t h h0; exact absurd (List.length_eq_zero_iff.1 (by omega)) h0
  | succ k ih =>
    intro t h h0 ha hh
    obtain ⟨t', c, rfl⟩ : ∃ t' c, t = t' ++ [c] := ⟨t.dropLast, t.getLast h0, (List.dropLast_concat_getLast h0).symm⟩
    rw [List.all_append, Bool.and_eq_true] at ha
    have hc : isD c = true := by simpa using ha.2
    have hc' := isD_iff.1 hc
    have hcc : UInt8.ofNat (48 + (c.toNat - 48)) = c := by
      apply UInt8.toNat_inj.1
      rw [digit_nat _ (by omega)]; omega
    rw [dv_snoc]
    by_cases hn : t' = []
    · subst hn
      rw [List.nil_append, dv_nil, show 0 * 10 + (c.toNat - 48) = c.toNat - 48 by omega, Lib.decDigits_one (by omega), hcc]
    · have hl : 1 ≤ t'.length := List.length_pos_iff.2 hn
      have hh' : t'.head? ≠ some 48 := by
        intro e
        have : (t' ++ [c]).head? = some 48 := by rw [List.head?_append, e]; rfl
        have h9 := hh this
        rw [List.length_append, List.length_singleton] at h9
        omega
      have hv : 1 ≤ dv 0 t' := by
        cases ht : t' with
        | nil => exact absurd ht hn
        | cons a r =>
          rw [ht] at ha hh'
          have h1 := isD_iff.1 (by simpa using (List.all_eq_true.1 ha.1 a (by simp)) : isD a = true)
          have h2 : a.toNat ≠ 48 := fun e => hh' (by rw [List.head?_cons]; congr 1; exact UInt8.toNat_inj.1 e)
          have := dv_mono (0 * 10 + (a.toNat - 48)) r
          rw [dv_cons]; omega
      have hi := ih t' (by rw [List.length_append] at h; simp at h; omega) hn ha.1 (fun e => absurd e hh')
      rw [Lib.decDigits, dif_neg (by omega), show (dv 0 t' * 10 + (c.toNat - 48)) / 10 = dv 0 t' by omega, show (dv 0 t' * 10 + (c.toNat - 48)) % 10 = c.toNat - 48 by omega, hi, hcc]

/-- The digits of a text: what stands behind a sign. -/
def body (l : List UInt8) : List UInt8 := if l.head? = some 45 then l.tail else l
/-- Is it the form of a number of at most 18 digits? -/
def canB (l : List UInt8) : Bool := !(body l).isEmpty && decide ((body l).length ≤ 18) && !((body l).head? == some 48 && decide (1 < l.length)) && (body l).all isD
/-- The number whose form it is. -/
def numV (l : List UInt8) : Int := if l.head? = some 45 then -(dv 0 (body l) : Int) else dv 0 (body l)

theorem canB_out {l : List UInt8} (h : canB l = true) : body l ≠ [] ∧ (body l).length ≤ 18 ∧ ((body l).head? = some 48 → l.length ≤ 1) ∧ (body l).all isD = true := by
  simp only [canB, Bool.and_eq_true, Bool.not_eq_true', List.isEmpty_eq_false_iff, decide_eq_true_eq, Bool.and_eq_false_iff, beq_eq_false_iff_ne, decide_eq_false_iff_not] at h
  obtain ⟨⟨⟨h1, h2⟩, h3⟩, h4⟩ := h
  exact ⟨h1, h2, fun e => by rcases h3 with h3 | h3; exact absurd e h3; omega, h4⟩

theorem canB_in {l : List UInt8} (h1 : body l ≠ []) (h2 : (body l).length ≤ 18) (h3 : (body l).head? = some 48 → l.length ≤ 1) (h4 : (body l).all isD = true) : canB l = true := by
  simp only [canB, Bool.and_eq_true, Bool.not_eq_true', List.isEmpty_eq_false_iff, decide_eq_true_eq, Bool.and_eq_false_iff, beq_eq_false_iff_ne, decide_eq_false_iff_not]
  refine ⟨⟨⟨h1, h2⟩, ?_⟩, h4⟩
  by_cases e : (body l).head? = some 48
  · exact .inr (by have := h3 e; omega)
  · exact .inl e

theorem dv_bd {t : List UInt8} (h : t.all isD = true) (hl : t.length ≤ 18) : dv 0 t ≤ 999999999999999999 := by
  have h1 := dv_lt 0 t h
  have h2 : 10 ^ t.length ≤ 10 ^ 18 := Nat.pow_le_pow_right (by omega) hl
  have h3 : (10 : Nat) ^ 18 = 1000000000000000000 := by decide
  omega

theorem numV_bd {l : List UInt8} (h : canB l = true) : -999999999999999999 ≤ numV l ∧ numV l ≤ 999999999999999999 := by
  obtain ⟨_, h2, _, h4⟩ := canB_out h
  have := dv_bd h4 h2
  unfold numV
  split <;> omega

/-- A form is that of its number. -/
theorem itoa_numV {l : List UInt8} (h : canB l = true) : Lib.itoa (numV l) = l := by
  obtain ⟨h1, h2, h3, h4⟩ := canB_out h
  unfold numV
  by_cases hs : l.head? = some 45
  · rw [if_pos hs]
    obtain ⟨r, rfl⟩ : ∃ r, l = 45 :: r := by
      cases l with
      | nil => simp at hs
      | cons a r => exact ⟨r, by simp at hs; rw [hs]⟩
    have hb : body (45 :: r) = r := rfl
    rw [hb] at h1 h2 h3 h4 ⊢
    have hne : r.head? ≠ some 48 := fun e => by
      have := h3 e
      cases r with
      | nil => simp at e
      | cons a r => simp at this
    have hv : 1 ≤ dv 0 r := by
      cases ht : r with
      | nil => exact absurd ht h1
      | cons a r' =>
        rw [ht] at h4 hne
        have e1 := isD_iff.1 (by simpa using (List.all_eq_true.1 h4 a (by simp)) : isD a = true)
        have e2 : a.toNat ≠ 48 := fun e => hne (by rw [List.head?_cons]; congr 1; exact UInt8.toNat_inj.1 e)
        have := dv_mono (0 * 10 + (a.toNat - 48)) r'
        rw [dv_cons]; omega
    rw [Lib.itoa_neg _ hv, dec_of _ r (Nat.le_refl _) h1 h4 (fun e => absurd e hne)]
  · rw [if_neg hs]
    have hb : body l = l := if_neg hs
    rw [hb] at h1 h2 h3 h4 ⊢
    rw [Lib.itoa_nonneg, dec_of _ l (Nat.le_refl _) h1 h4 (fun e => by have := h3 e; have := List.length_pos_iff.2 h1; omega)]

/-- The form of a number of at most 18 digits is a form. -/
theorem canB_itoa {n : Int} (h0 : -999999999999999999 ≤ n) (h1 : n ≤ 999999999999999999) : canB (Lib.itoa n) = true ∧ numV (Lib.itoa n) = n := by
  have h18 : (10 : Nat) ^ 18 = 1000000000000000000 := by decide
  by_cases hn : n < 0
  · obtain ⟨u, rfl⟩ : ∃ u : Nat, n = -(u : Int) := ⟨n.natAbs, by omega⟩
    obtain ⟨f1, f2, f3, f4⟩ := dec_facts u u (Nat.le_refl _)
    have hl := dec_len 18 u (by omega) (by omega)
    rw [Lib.itoa_neg u (by omega)]
    have hb : body (45 :: Lib.decDigits u) = Lib.decDigits u := rfl
    refine ⟨canB_in (by rw [hb]; exact f3) (by rw [hb]; exact hl) (fun e => ?_) (by rw [hb]; exact f2), ?_⟩
    · rw [hb] at e
      have := f4 e; omega
    · unfold numV; rw [if_pos (show (45 :: Lib.decDigits u).head? = some 45 from rfl), hb, f1]
  · obtain ⟨u, rfl⟩ : ∃ u : Nat, n = (u : Int) := ⟨n.toNat, by omega⟩
    obtain ⟨f1, f2, f3, f4⟩ := dec_facts u u (Nat.le_refl _)
    have hl := dec_len 18 u (by omega) (by omega)
    rw [Lib.itoa_nonneg]
    have hh : (Lib.decDigits u).head? ≠ some 45 := by
      intro e
      cases hd : Lib.decDigits u with
      | nil => exact f3 hd
      | cons a r =>
        rw [hd] at e f2
        have e1 := isD_iff.1 (by simpa using (List.all_eq_true.1 f2 a (by simp)) : isD a = true)
        simp at e
        subst e
        simp at e1
    have hb : body (Lib.decDigits u) = Lib.decDigits u := if_neg hh
    refine ⟨canB_in (by rw [hb]; exact f3) (by rw [hb]; exact hl) (fun e => ?_) (by rw [hb]; exact f2), ?_⟩
    · rw [hb] at e
      have := f4 e
      subst this
      rw [Lib.decDigits_one (by omega)]; simp
    · unfold numV; rw [if_neg hh, hb, f1]

theorem parseM_digits (M : Nat) : ∀ (t : List UInt8) (acc : Nat), t.all isD = true → dv acc t ≤ M → dv acc t ≤ 999999999999999999 → Lib.parseUintM M acc t = .ok (dv acc t) := by
  intro t
  induction t with
  | nil => intro acc _ _ _; rfl
  | cons c r ih =>
    intro acc ha hM hb
    simp only [List.all_cons, Bool.and_eq_true] at ha
    have hc := isD_iff.1 ha.1
    have hm := dv_mono (acc * 10 + (c.toNat - 48)) r
    rw [dv_cons] at hM hb ⊢
    simp only [Lib.parseUintM]
    rw [if_pos hc, if_neg (by omega), if_neg (by omega)]
    exact ih _ ha.2 hM hb

/-- A form is read as its number by the library. -/
theorem parse_can {l : List UInt8} (h : canB l = true) : Lib.parseIntB 64 l = .ok (numV l) := by
  obtain ⟨h1, h2, h3, h4⟩ := canB_out h
  have hbd := dv_bd h4 h2
  cases l with
  | nil => exact absurd rfl h1
  | cons c r =>
    have h64 : (2 : Nat) ^ 64 - 1 = 18446744073709551615 := by decide
    have h63 : (2 : Nat) ^ (64 - 1) = 9223372036854775808 := by decide
    by_cases hs : c = 45
    · subst hs
      have hb : body (45 :: r) = r := rfl
      rw [hb] at h1 h4 hbd
      have hu : Lib.parseUintB 64 r = .ok (dv 0 r) := by
        unfold Lib.parseUintB
        rw [if_neg h1, h64]
        exact parseM_digits _ r 0 h4 (by omega) hbd
      have hn : (45 : UInt8).toNat = 45 := rfl
      simp only [Lib.parseIntB, hn, or_true, if_true, hu, h63, not_true_eq_false, false_and, if_false, true_and]
      rw [if_neg (by omega)]
      unfold numV
      rw [if_pos (show (45 :: r).head? = some 45 from rfl), hb]
    · have hns : ¬ c.toNat = 45 := fun e => hs (UInt8.toNat_inj.1 e)
      have hh : (c :: r).head? ≠ some 45 := by simpa using hs
      have hb : body (c :: r) = c :: r := if_neg hh
      rw [hb] at h1 h4 hbd
      have hcd := isD_iff.1 (by simpa using (List.all_eq_true.1 h4 c (by simp)) : isD c = true)
      have hu : Lib.parseUintB 64 (c :: r) = .ok (dv 0 (c :: r)) := by
        unfold Lib.parseUintB
        rw [if_neg h1, h64]
        exact parseM_digits _ _ 0 h4 (by omega) hbd
      have h43 : ¬ c.toNat = 43 := by omega
      simp only [Lib.parseIntB, hns, h43, or_self, if_false, hu, h63, not_false_eq_true, true_and, false_and]
      rw [if_neg (by omega)]
      unfold numV
      rw [if_neg hh, hb]
end Go.Proofs.YtlelcecbpahliaaGreatDoor.Pm
