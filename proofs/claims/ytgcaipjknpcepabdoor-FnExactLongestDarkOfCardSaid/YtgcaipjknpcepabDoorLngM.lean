/- The longest time without light. -/
import Derived.Test.YtgcaipjknpcepabDoorFlsM
namespace Go.Proofs.YtgcaipjknpcepabDoor
open Go.ChangeShapes Go.WideShapes Go.ChangeAt Go.RowKit Pm

/-- Dark tenths in front. -/
def lead : List UInt8 → Nat
  | [] => 0
  | x :: r => if x = 0 then lead r + 1 else 0
theorem lead_le : ∀ L : List UInt8, lead L ≤ L.length
  | [] => Nat.le_refl _
  | x :: r => by have := lead_le r; rw [lead, List.length_cons]; split <;> omega
theorem lead_get : ∀ (L : List UInt8) (i : Nat) (h : i < lead L) (h2 : i < L.length), L[i] = 0
  | [], _, _, h2 => by simp at h2
  | x :: r, 0, h, _ => by
    rw [lead] at h
    split at h
    · rename_i e; exact e
    · omega
  | x :: r, i + 1, h, h2 => by
    rw [lead] at h
    split at h
    · exact lead_get r i (by omega) (by simpa using h2)
    · omega
theorem lead_ge : ∀ (L : List UInt8) (t : Nat) (hl : t ≤ L.length), (∀ i (h : i < t), L[i]'(by omega) = 0) → t ≤ lead L
  | _, 0, _, _ => Nat.zero_le _
  | [], t + 1, hl, _ => by simp at hl
  | x :: r, t + 1, hl, h => by
    have h0 : x = 0 := h 0 (by omega)
    have := lead_ge r t (by simpa using hl) (fun i hi => by have := h (i + 1) (by omega); simpa using this)
    rw [lead, if_pos h0]; omega
theorem lead_num : ∀ a c : List UInt8, a.length = c.length → numB a ≤ numB c → lead c ≤ lead a
  | _, [], _, _ => Nat.zero_le _
  | [], _ :: _, h, _ => by simp at h
  | x :: a, y :: c, h, hn => by
    have hl : a.length = c.length := by simpa using h
    by_cases e : y = 0
    · subst e
      have hn2 : ¬ numB ((0 : UInt8) :: c) < numB (x :: a) := by omega
      rw [numB_cons hl.symm] at hn2
      have e0 : (0 : UInt8).toNat = 0 := rfl
      have hx : x = 0 := UInt8.toNat_inj.1 (by omega)
      subst hx
      have := lead_num a c hl (by have : ¬ numB c < numB a := fun q => hn2 (.inr ⟨rfl, q⟩); omega)
      rw [lead, lead, if_pos rfl, if_pos rfl]; omega
    · rw [lead, if_neg e]; exact Nat.zero_le _
theorem lead_run : ∀ (l : List UInt8) (c : UInt8) (m : Nat) (t : List (UInt8 × Nat)), runL l = (c, m) :: t → lead l = if c = 0 then m else 0
  | [], _, _, _, h => by simp [runL] at h
  | [x], c, m, t, h => by
    have h' : [(x, 1)] = (c, m) :: t := h
    simp only [List.cons.injEq, Prod.mk.injEq] at h'
    obtain ⟨⟨rfl, rfl⟩, _⟩ := h'
    rfl
  | x :: y :: l, c, m, t, h => by
    obtain ⟨k, u, e⟩ := runL_head y l
    have ih := lead_run (y :: l) y (k + 1) u e
    have h' : consR x (runL (y :: l)) = (c, m) :: t := h
    rw [e] at h'
    by_cases q : y = x
    · subst q
      rw [consR_same] at h'
      simp only [List.cons.injEq, Prod.mk.injEq] at h'
      obtain ⟨⟨rfl, rfl⟩, _⟩ := h'
      rw [lead, ih]
      by_cases z : y = 0
      · simp [z]
      · simp [z]
    · rw [consR_ne q] at h'
      simp only [List.cons.injEq, Prod.mk.injEq] at h'
      obtain ⟨⟨rfl, rfl⟩, _⟩ := h'
      rw [lead, ih]
      by_cases z : x = 0
      · have : ¬ y = 0 := fun w => q (by rw [w, z])
        simp [z, this]
      · simp [z]
/-- The model's counts. -/
def nwD (l : List UInt8) : Nat → Nat
  | 0 => 0
  | k + 1 => if ever l k = 0 then nwD l k + 1 else 0
def mxD (l : List UInt8) : Nat → Nat
  | 0 => 0
  | k + 1 => max (mxD l k) (nwD l (k + 1))
theorem nwD_le (l : List UInt8) : ∀ k, nwD l k ≤ k
  | 0 => Nat.le_refl _
  | k + 1 => by have := nwD_le l k; rw [nwD]; split <;> omega
theorem mxD_le (l : List UInt8) : ∀ k, mxD l k ≤ k
  | 0 => Nat.le_refl _
  | k + 1 => by have := mxD_le l k; have := nwD_le l (k + 1); rw [mxD]; omega
theorem nwD_zero (l : List UInt8) : ∀ k t, t < nwD l k → ever l (k - 1 - t) = 0
  | 0, t, h => by simp [nwD] at h
  | k + 1, t, h => by
    rw [nwD] at h
    split at h
    · rename_i e
      cases t with
      | zero => exact e
      | succ t =>
        have := nwD_zero l k t (by omega)
        rw [show k + 1 - 1 - (t + 1) = k - 1 - t by omega]
        exact this
    · omega
theorem nwD_ge (l : List UInt8) (i : Nat) : ∀ r, (∀ t, t < r → ever l (i + t) = 0) → r ≤ nwD l (i + r)
  | 0, _ => Nat.zero_le _
  | r + 1, h => by
    have ih := nwD_ge l i r (fun t ht => h t (by omega))
    show r + 1 ≤ nwD l (i + r + 1)
    rw [nwD, if_pos (h r (by omega))]; omega
theorem mxD_ge (l : List UInt8) : ∀ k j, j ≤ k → nwD l j ≤ mxD l k
  | 0, j, h => by rw [show j = 0 by omega]; exact Nat.le_refl _
  | k + 1, j, h => by
    rw [mxD]
    by_cases e : j = k + 1
    · rw [e]; omega
    · have := mxD_ge l k j (by omega); omega
theorem mxD_up (l : List UInt8) (m : Nat) : ∀ k, (∀ j, j ≤ k → nwD l j ≤ m) → mxD l k ≤ m
  | 0, _ => Nat.zero_le _
  | k + 1, h => by
    have h1 := mxD_up l m k (fun j hj => h j (by omega))
    have h2 := h (k + 1) (Nat.le_refl _)
    rw [mxD]; omega
theorem drk_lead {l : List UInt8} {b : Nat} (h : IsNorm l b) : min (mxD l (2 * l.length)) l.length = lead (rotL l b) := by
  have hb := h.lt
  have hp : 1 ≤ l.length := by omega
  have hll := lead_le (rotL l b)
  rw [rotL_len] at hll
  apply Nat.le_antisymm
  · -- a time without light is no longer than the first one
    have key : ∀ k, k ≤ 2 * l.length → min (nwD l k) l.length ≤ lead (rotL l b) := by
      intro k hk
      obtain ⟨t, ht⟩ : ∃ t, t = min (nwD l k) l.length := ⟨_, rfl⟩
      rw [← ht]
      have hkl := nwD_le l k
      have hm : (k - t) % l.length < l.length := Nat.mod_lt _ hp
      have h1 : t ≤ lead (rotL l ((k - t) % l.length)) := by
        refine lead_ge _ t (by rw [rotL_len]; omega) fun i hi => ?_
        rw [rot_get l _ i (by omega) (by omega), ← ever_mod, Nat.add_mod_mod, ever_mod]
        have := nwD_zero l k (t - 1 - i) (by omega)
        rw [show k - 1 - (t - 1 - i) = i + (k - t) by omega] at this
        exact this
      exact Nat.le_trans h1 (lead_num _ _ (by rw [rotL_len, rotL_len]) (h.least _ hm))
    by_cases e : l.length ≤ lead (rotL l b)
    · omega
    · have : mxD l (2 * l.length) ≤ lead (rotL l b) := mxD_up l _ _ (fun j hj => by have := key j hj; omega)
      omega
  · have h1 := nwD_ge l b (lead (rotL l b)) (fun t ht => by
      have h2 := lead_get (rotL l b) t ht (by rw [rotL_len]; omega)
      rw [rot_get l b t (by omega) (by omega), Nat.add_comm] at h2
      exact h2)
    have h2 := mxD_ge l (2 * l.length) (b + lead (rotL l b)) (by omega)
    omega
def drkV (ps : List Ph) : Int := if validP ps then (lead ((normL (onceL (tenL ps))).map unT) : Int) else 0
theorem drk_norm {P : List UInt8} (hP : 1 ≤ P.length) (hpic : ∀ x ∈ P, picb x = true) : min (mxD (P.map unT) (2 * (P.map unT).length)) (P.map unT).length = lead ((normL P).map unT) := by
  have hM := (IsNorm.map hpic).2 (normB_is P hP)
  rw [drk_lead hM, rot_map]; rfl
/-- The first phase tells it. -/
theorem drk_first (l : List UInt8) (h : 1 ≤ l.length) : ∃ (c : UInt8) (m : Nat) (t : List Ph), phsR l = (nameV c, (m : Int)) :: t ∧ lead l = if c = 0 then m else 0 := by
  cases l with
  | nil => simp at h
  | cons x r =>
    obtain ⟨m, t, e⟩ := runL_head x r
    refine ⟨x, m + 1, t.map (fun r => (nameV r.1, (r.2 : Int))), ?_, lead_run _ _ _ _ e⟩
    unfold phsR
    rw [e]; rfl
end Go.Proofs.YtgcaipjknpcepabDoor
