/- The least rotation of a list of bytes. -/
import Derived.Test.YtgcaipjknpcepabDoorPerM
namespace Go.Proofs.YtgcaipjknpcepabDoor
open Go.ChangeShapes Go.WideShapes Go.ChangeAt Go.RowKit Pm

/-- A list of bytes as a number: lists of one length stand in its order. -/
def numB : List UInt8 → Nat
  | [] => 0
  | x :: r => x.toNat * 256 ^ r.length + numB r
theorem numB_lt : ∀ l : List UInt8, numB l < 256 ^ l.length
  | [] => by simp [numB]
  | x :: r => by
    have h := numB_lt r
    have hx : x.toNat < 256 := UInt8.toNat_lt x
    have : (x.toNat + 1) * 256 ^ r.length ≤ 256 * 256 ^ r.length := Nat.mul_le_mul_right _ hx
    rw [Nat.add_mul] at this
    simp only [numB, List.length_cons, Nat.pow_succ]
    omega
theorem numB_cons {x y : UInt8} {r s : List UInt8} (h : r.length = s.length) : numB (x :: r) < numB (y :: s) ↔ x.toNat < y.toNat ∨ (x = y ∧ numB r < numB s) := by
  have h1 := numB_lt r
  have h2 := numB_lt s
  simp only [numB]
  rw [h] at h1 ⊢
  constructor
  · intro hl
    rcases Nat.lt_trichotomy x.toNat y.toNat with e | e | e
    · exact .inl e
    · exact .inr ⟨UInt8.toNat_inj.1 e, by rw [e] at hl; omega⟩
    · have : (y.toNat + 1) * 256 ^ s.length ≤ x.toNat * 256 ^ s.length := Nat.mul_le_mul_right _ e
      rw [Nat.add_mul] at this
      omega
  · rintro (e | ⟨rfl, e⟩)
    · have : (x.toNat + 1) * 256 ^ s.length ≤ y.toNat * 256 ^ s.length := Nat.mul_le_mul_right _ e
      rw [Nat.add_mul] at this
      omega
    · omega
theorem numB_inj : ∀ {a b : List UInt8}, a.length = b.length → numB a = numB b → a = b
  | [], [], _, _ => rfl
  | [], _ :: _, h, _ => by simp at h
  | _ :: _, [], h, _ => by simp at h
  | x :: r, y :: s, h, e => by
    have hl : r.length = s.length := by simpa using h
    have n1 : ¬ numB (x :: r) < numB (y :: s) := by omega
    have n2 : ¬ numB (y :: s) < numB (x :: r) := by omega
    rw [numB_cons hl] at n1
    rw [numB_cons hl.symm] at n2
    have hxy : x = y := UInt8.toNat_inj.1 (by omega)
    subst hxy
    have : numB r = numB s := by
      have a1 : ¬ numB r < numB s := fun q => n1 (.inr ⟨rfl, q⟩)
      have a2 : ¬ numB s < numB r := fun q => n2 (.inr ⟨rfl, q⟩)
      omega
    rw [numB_inj hl this]
/-- The first difference decides. -/
theorem numB_diff : ∀ (a b : List UInt8) (k : Nat) (h1 : k < a.length) (h2 : k < b.length), a.length = b.length → (∀ j (g1 : j < a.length) (g2 : j < b.length), j < k → a[j] = b[j]) → a[k].toNat < b[k].toNat → numB a < numB b
  | [], _, _, h1, _, _, _, _ => by simp at h1
  | _ :: _, [], _, _, h2, _, _, _ => by simp at h2
  | x :: r, y :: s, 0, _, _, hl, _, hd => (numB_cons (by simpa using hl)).2 (.inl (by simpa using hd))
  | x :: r, y :: s, k + 1, h1, h2, hl, he, hd => by
    have hxy : x = y := he 0 (by simp) (by simp) (by omega)
    refine (numB_cons (by simpa using hl)).2 (.inr ⟨hxy, ?_⟩)
    refine numB_diff r s k (by simpa using h1) (by simpa using h2) (by simpa using hl) (fun j g1 g2 hj => ?_) (by simpa using hd)
    have := he (j + 1) (by simpa using g1) (by simpa using g2) (by omega)
    simpa using this
/-- The order of strings. -/
theorem less_num : ∀ a b : List UInt8, a.length = b.length → Op.bytesLess a b = decide (numB a < numB b)
  | [], [], _ => by simp [Op.bytesLess, numB]
  | [], _ :: _, h => by simp at h
  | _ :: _, [], h => by simp at h
  | x :: r, y :: s, h => by
    have hl : r.length = s.length := by simpa using h
    have ih := less_num r s hl
    have hc := numB_cons (x := x) (y := y) hl
    rw [Bool.eq_iff_iff, decide_eq_true_eq, hc]
    show (decide (x < y) || (x == y && Op.bytesLess r s)) = true ↔ _
    rw [ih]
    simp [UInt8.lt_iff_toNat_lt]
/-- The model's bytes stand in the same order. -/
theorem unT_lt {a b : UInt8} (ha : picb a = true) (hb : picb b = true) : (unT a).toNat < (unT b).toNat ↔ a.toNat < b.toNat := by
  rcases picb_cases ha with rfl | rfl | rfl | rfl | rfl <;> rcases picb_cases hb with rfl | rfl | rfl | rfl | rfl <;> decide
theorem numB_map : ∀ {a b : List UInt8}, a.length = b.length → (∀ x ∈ a, picb x = true) → (∀ x ∈ b, picb x = true) → (numB (a.map unT) < numB (b.map unT) ↔ numB a < numB b)
  | [], [], _, _, _ => by simp
  | [], _ :: _, h, _, _ => by simp at h
  | _ :: _, [], h, _, _ => by simp at h
  | x :: r, y :: s, h, ha, hb => by
    have hl : r.length = s.length := by simpa using h
    have ih := numB_map hl (fun z hz => ha z (by simp [hz])) (fun z hz => hb z (by simp [hz]))
    rw [List.map_cons, List.map_cons, numB_cons (by simpa using hl), numB_cons hl, unT_lt (ha x (by simp)) (hb y (by simp)), ih]
    constructor
    · rintro (e | ⟨e, f⟩)
      · exact .inl e
      · exact .inr ⟨unT_inj (ha x (by simp)) (hb y (by simp)) e, f⟩
    · rintro (e | ⟨e, f⟩)
      · exact .inl e
      · exact .inr ⟨by rw [e], f⟩
/-- The place of a least rotation. -/
structure IsNorm (P : List UInt8) (b : Nat) : Prop where
  lt : b < P.length
  least : ∀ i, i < P.length → numB (rotL P b) ≤ numB (rotL P i)
def minB (P : List UInt8) : Nat → Nat
  | 0 => 0
  | i + 1 => if numB (rotL P (i + 1)) < numB (rotL P (minB P i)) then i + 1 else minB P i
theorem minB_is (P : List UInt8) : ∀ i, minB P i ≤ i ∧ ∀ m, m ≤ i → numB (rotL P (minB P i)) ≤ numB (rotL P m)
  | 0 => ⟨Nat.le_refl _, fun m hm => by rw [show m = 0 by omega]; exact Nat.le_refl _⟩
  | i + 1 => by
    obtain ⟨h1, h2⟩ := minB_is P i
    unfold minB
    split
    · rename_i h
      refine ⟨Nat.le_refl _, fun m hm => ?_⟩
      by_cases e : m = i + 1
      · rw [e]; exact Nat.le_refl _
      · have := h2 m (by omega); omega
    · rename_i h
      refine ⟨by omega, fun m hm => ?_⟩
      by_cases e : m = i + 1
      · rw [e]; omega
      · exact h2 m (by omega)
def normB (P : List UInt8) : Nat := minB P (P.length - 1)
theorem normB_is (P : List UInt8) (h : 1 ≤ P.length) : IsNorm P (normB P) := by
  obtain ⟨h1, h2⟩ := minB_is P (P.length - 1)
  exact ⟨by unfold normB; omega, fun i hi => h2 i (by omega)⟩
/-- The least rotation. -/
def normL (P : List UInt8) : List UInt8 := rotL P (normB P)
theorem normL_len (P : List UInt8) : (normL P).length = P.length := rotL_len P _
theorem IsNorm.rot {P : List UInt8} {b : Nat} (h : IsNorm P b) : rotL P b = normL P := by
  have h2 := normB_is P (by have := h.lt; omega)
  refine numB_inj (by rw [rotL_len, normL_len]) ?_
  have a1 := h.least _ h2.lt
  have a2 := h2.least _ h.lt
  unfold normL; omega
theorem IsNorm.map {P : List UInt8} {b : Nat} (h : ∀ x ∈ P, picb x = true) : IsNorm (P.map unT) b ↔ IsNorm P b := by
  have key : ∀ i j, numB (rotL (P.map unT) i) < numB (rotL (P.map unT) j) ↔ numB (rotL P i) < numB (rotL P j) := fun i j => by
    rw [rot_map, rot_map]
    exact numB_map (by rw [rotL_len, rotL_len]) (fun x hx => h x (rot_mem hx)) (fun x hx => h x (rot_mem hx))
  constructor
  · intro k
    have hl := k.lt; rw [List.length_map] at hl
    refine ⟨hl, fun i hi => ?_⟩
    have := k.least i (by rw [List.length_map]; exact hi)
    have := key i b
    omega
  · intro k
    refine ⟨by rw [List.length_map]; exact k.lt, fun i hi => ?_⟩
    rw [List.length_map] at hi
    have := k.least i hi
    have := key i b
    omega
/-- The least rotation begins with a whole phase. -/
theorem same_all (c : UInt8) : ∀ t : List UInt8, (∀ e ∈ t, c.toNat ≤ e.toNat) → numB t ≤ numB ((c :: t).dropLast) → ∀ e ∈ t, e = c
  | [], _, _, e, he => by simp at he
  | d :: t, hm, hl, e, he => by
    have hd := hm d (by simp)
    rw [List.dropLast_cons_of_ne_nil (by simp)] at hl
    have hlen : t.length = ((d :: t).dropLast).length := by simp
    have hn : ¬ numB (c :: (d :: t).dropLast) < numB (d :: t) := by omega
    rw [numB_cons hlen.symm] at hn
    have hdc : c = d := UInt8.toNat_inj.1 (by omega)
    subst hdc
    have ih := same_all c t (fun e he => hm e (by simp [he])) (by have : ¬ numB ((c :: t).dropLast) < numB t := fun q => hn (.inr ⟨rfl, q⟩); omega)
    rcases List.mem_cons.1 he with he | he
    · exact he
    · exact ih e he
theorem rot_succ (P : List UInt8) (b : Nat) (hb : b + 1 ≤ P.length) : rotL P b = P.getD b 45 :: (rotL P (b + 1)).dropLast := by
  have hl : b < P.length := by omega
  unfold rotL
  have e : P.getD b 45 = P[b] := by rw [List.getD_eq_getElem?_getD, List.getElem?_eq_getElem hl]; rfl
  rw [List.drop_eq_getElem_cons hl, e, List.take_succ_eq_append_getElem hl, ← List.append_assoc, List.dropLast_concat, List.cons_append]
theorem norm_starts (P : List UInt8) (h : 1 ≤ P.length) : ∃ b, IsNorm P b ∧ (b = 0 ∨ P.getD b 45 ≠ P.getD (b - 1) 45) := by
  have hN := normB_is P h
  generalize normB P = b at hN
  by_cases h0 : b = 0
  · exact ⟨b, hN, .inl h0⟩
  by_cases hs : P.getD b 45 = P.getD (b - 1) 45
  · -- all bytes are the same
    have hb := hN.lt
    have hr : rotL P (b - 1) = P.getD b 45 :: (rotL P b).dropLast := by
      have := rot_succ P (b - 1) (by omega)
      rw [show b - 1 + 1 = b by omega] at this
      rw [this, hs]
    have hc : rotL P b = P.getD b 45 :: (rotL P (b + 1)).dropLast := rot_succ P b (by omega)
    have hmin : ∀ e ∈ P, (P.getD b 45).toNat ≤ e.toNat := by
      intro e he
      obtain ⟨j, hj, rfl⟩ := List.getElem_of_mem he
      have h1 := hN.least j hj
      rw [hc, rot_succ P j (by omega)] at h1
      have hl : ((rotL P (j + 1)).dropLast).length = ((rotL P (b + 1)).dropLast).length := by simp [rotL_len]
      have hn : ¬ numB (P.getD j 45 :: (rotL P (j + 1)).dropLast) < numB (P.getD b 45 :: (rotL P (b + 1)).dropLast) := by omega
      rw [numB_cons hl] at hn
      have e2 : P.getD j 45 = P[j] := by rw [List.getD_eq_getElem?_getD, List.getElem?_eq_getElem hj]; rfl
      rw [e2] at hn
      omega
    have hle := hN.least (b - 1) (by omega)
    rw [hr] at hle
    obtain ⟨t, ht⟩ : ∃ t, t = (rotL P (b + 1)).dropLast := ⟨_, rfl⟩
    rw [← ht] at hc
    have hall : ∀ e ∈ t, e = P.getD b 45 := by
      refine same_all _ t (fun e he => hmin e ?_) ?_
      · exact rot_mem (n := b) (by rw [hc]; simp [he])
      · rw [hc] at hle
        have hl : t.length = ((P.getD b 45 :: t).dropLast).length := by simp
        have hn : ¬ numB (P.getD b 45 :: (P.getD b 45 :: t).dropLast) < numB (P.getD b 45 :: t) := by omega
        rw [numB_cons hl.symm] at hn
        have : ¬ numB ((P.getD b 45 :: t).dropLast) < numB t := fun q => hn (.inr ⟨rfl, q⟩)
        omega
    have hP : ∀ e ∈ P, e = P.getD b 45 := by
      intro e he
      have : e ∈ rotL P b := by
        unfold rotL
        rw [← List.take_append_drop b P] at he
        rcases List.mem_append.1 he with q | q
        · exact List.mem_append.2 (.inr q)
        · exact List.mem_append.2 (.inl q)
      rw [hc] at this
      rcases List.mem_cons.1 this with q | q
      · exact q
      · exact hall e q
    have hrep : ∀ i, rotL P i = List.replicate P.length (P.getD b 45) := fun i =>
      List.eq_replicate_iff.2 ⟨rotL_len P i, fun e he => hP e (rot_mem he)⟩
    exact ⟨0, ⟨by omega, fun i _ => by rw [hrep, hrep]; exact Nat.le_refl _⟩, .inl rfl⟩
  · exact ⟨b, hN, .inr hs⟩
/-- A picture is its period, again and again. -/
theorem ever_once {T : List UInt8} (h : 1 ≤ T.length) (i : Nat) : ever T i = ever (T.take (perL T)) i := by
  have hp := perL_is T h
  have hl : (T.take (perL T)).length = perL T := by rw [List.length_take]; have := hp.le; omega
  have hm := ever_mul ((rot_iff T _ h hp.le).1 hp.rot) (i / perL T) (i % perL T)
  rw [Nat.mod_add_div] at hm
  rw [hm]
  have hlt : i % perL T < perL T := Nat.mod_lt _ hp.pos
  have hle := hp.le
  rw [ever_lt T _ (by omega)]
  unfold ever
  rw [hl, List.getD_eq_getElem?_getD, List.getElem?_take, if_pos hlt, List.getElem?_eq_getElem (by omega)]
  rfl
end Go.Proofs.YtgcaipjknpcepabDoor
