/- How often a light goes on. -/
import Derived.Test.YtgcaipjknpcepabDoorNrm
namespace Go.Proofs.YtgcaipjknpcepabDoor
open Go.ChangeShapes Go.WideShapes Go.ChangeAt Go.RowKit Pm

/-- A sum over the first places. -/
def sumN (g : Nat → Nat) : Nat → Nat
  | 0 => 0
  | k + 1 => sumN g k + g k
theorem sumN_congr {g h : Nat → Nat} : ∀ n, (∀ i, i < n → g i = h i) → sumN g n = sumN h n
  | 0, _ => rfl
  | n + 1, e => by rw [sumN, sumN, sumN_congr n (fun i hi => e i (by omega)), e n (by omega)]
theorem sumN_shift (g : Nat → Nat) : ∀ n, sumN (fun i => g (i + 1)) n + g 0 = sumN g n + g n
  | 0 => rfl
  | n + 1 => by
    have := sumN_shift g n
    rw [sumN, sumN]; omega
theorem sumN_rot (g : Nat → Nat) (n : Nat) (hg : ∀ i, g (i + n) = g i) : ∀ b, sumN (fun i => g (i + b)) n = sumN g n
  | 0 => rfl
  | b + 1 => by
    have h1 := sumN_shift (fun i => g (i + b)) n
    have h2 := hg b
    have h3 := sumN_rot g n hg b
    simp only [Nat.zero_add] at h1
    rw [Nat.add_comm n b, h2] at h1
    have e : sumN (fun i => g (i + (b + 1))) n = sumN (fun i => g (i + 1 + b)) n := sumN_congr n (fun i _ => by rw [show i + (b + 1) = i + 1 + b by omega])
    rw [e]
    omega
theorem sumN_le (g : Nat → Nat) (hg : ∀ i, g i ≤ 1) : ∀ n, sumN g n ≤ n
  | 0 => Nat.le_refl _
  | n + 1 => by have := sumN_le g hg n; have := hg n; rw [sumN]; omega
/-- Does the light go on at a place? -/
def goesOn (l : List UInt8) (i : Nat) : Nat := if ever l i ≠ 0 ∧ ever l (i + l.length - 1) = 0 then 1 else 0
theorem goesOn_le (l : List UInt8) (i : Nat) : goesOn l i ≤ 1 := by unfold goesOn; split <;> omega
def flsN (l : List UInt8) : Nat := sumN (goesOn l) l.length
theorem ever_rot (l : List UInt8) (b : Nat) (hp : 1 ≤ l.length) (hb : b ≤ l.length) (i : Nat) : ever (rotL l b) i = ever l (i + b) := by
  have hi : i % l.length < l.length := Nat.mod_lt _ hp
  rw [← ever_mod, rotL_len, ever_lt _ _ (by rw [rotL_len]; exact hi), rot_get l b _ hb hi, ← ever_mod, Nat.mod_add_mod, ever_mod]
theorem goesOn_per (l : List UInt8) (hp : 1 ≤ l.length) (i : Nat) : goesOn l (i + l.length) = goesOn l i := by
  unfold goesOn
  rw [ever_len, show i + l.length + l.length - 1 = i + l.length - 1 + l.length by omega, ever_len]
theorem flsN_rot (l : List UInt8) (b : Nat) (hp : 1 ≤ l.length) (hb : b ≤ l.length) : flsN (rotL l b) = flsN l := by
  unfold flsN
  rw [rotL_len, ← sumN_rot (goesOn l) l.length (goesOn_per l hp) b]
  refine sumN_congr _ fun i _ => ?_
  unfold goesOn
  rw [ever_rot l b hp hb, ever_rot l b hp hb, rotL_len, show i + l.length - 1 + b = i + b + l.length - 1 by omega]
/-- The same along a row. -/
def linB : List Bool → Nat
  | x :: y :: r => (if !x && y then 1 else 0) + linB (y :: r)
  | _ => 0
theorem linB_snoc (x y : Bool) : ∀ L : List Bool, linB (L ++ [x] ++ [y]) = linB (L ++ [x]) + (if !x && y then 1 else 0)
  | [] => by simp [linB]
  | [a] => by simp [linB]
  | a :: b :: L => by
    have := linB_snoc x y (b :: L)
    simp only [List.cons_append] at this ⊢
    rw [linB, linB, this]; omega
theorem linB_take (L : List Bool) (k : Nat) (h : k + 1 < L.length) : linB (L.take (k + 1 + 1)) = linB (L.take (k + 1)) + (if !L[k] && L[k + 1] then 1 else 0) := by
  rw [List.take_succ_eq_append_getElem h, List.take_succ_eq_append_getElem (show k < L.length by omega), linB_snoc]
theorem linB_one (L : List Bool) : linB (L.take 1) = 0 := by
  cases L with
  | nil => rfl
  | cons a r => rfl
theorem linB_le : ∀ L : List Bool, linB L ≤ L.length
  | [] => Nat.le_refl _
  | [_] => by simp [linB]
  | x :: y :: r => by
    have := linB_le (y :: r)
    rw [linB]
    simp only [List.length_cons] at this ⊢
    split <;> omega
theorem linB_runs : ∀ l : List UInt8, linB ((runL l).map (fun r => r.1 != 0)) = linB (l.map (· != 0))
  | [] => rfl
  | [x] => rfl
  | x :: y :: l => by
    have ih := linB_runs (y :: l)
    obtain ⟨m, t, e⟩ := runL_head y l
    show linB ((consR x (runL (y :: l))).map _) = _
    rw [e] at ih ⊢
    by_cases q : y = x
    · subst q
      rw [consR_same]
      simp only [List.map_cons] at ih ⊢
      rw [linB, ← ih]
      simp
    · rw [consR_ne q]
      simp only [List.map_cons] at ih ⊢
      rw [linB, linB, ih]
/-- A phase is lit. -/
def litP (p : Ph) : Bool := !(p.1.toList == [])
theorem litP_name (b : UInt8) (n : Int) : litP (nameV b, n) = (b != 0) := by
  unfold litP nameV
  by_cases e : b = 0
  · subst e
    rw [if_pos rfl]
    have : (⟨#[]⟩ : ByteArray).toList = [] := by rw [ByteArray.toList_eq]
    simp only [this]
    rfl
  · rw [if_neg e]
    have : (⟨#[b]⟩ : ByteArray).toList = [b] := by rw [ByteArray.toList_eq]
    simp only [this]
    simp [e]
theorem phsR_lit (l : List UInt8) : (phsR l).map litP = (runL l).map (fun r => r.1 != 0) := by
  unfold phsR
  rw [List.map_map]
  refine List.map_congr_left fun r _ => ?_
  exact litP_name _ _
theorem lin_sum (l : List UInt8) (h0 : goesOn l 0 = 0) : ∀ k, k + 1 ≤ l.length → sumN (goesOn l) (k + 1) = linB ((l.map (· != 0)).take (k + 1))
  | 0, _ => by rw [linB_one]; show 0 + goesOn l 0 = 0; omega
  | k + 1, h => by
    have hl : (l.map (· != 0)).length = l.length := List.length_map _
    rw [sumN, lin_sum l h0 k (by omega), linB_take _ k (by omega)]
    congr 1
    unfold goesOn
    rw [List.getElem_map, List.getElem_map, show k + 1 + l.length - 1 = k + l.length by omega, ever_len, ever_lt l k (by omega), ever_lt l (k + 1) (by omega)]
    by_cases a : l[k] = 0 <;> by_cases b : l[k + 1] = 0 <;> simp [a, b]
theorem fls_lin (l : List UInt8) (hp : 1 ≤ l.length) (h0 : goesOn l 0 = 0) : flsN l = linB ((phsR l).map litP) := by
  rw [phsR_lit, linB_runs]
  unfold flsN
  obtain ⟨k, hk⟩ : ∃ k, l.length = k + 1 := ⟨l.length - 1, by omega⟩
  rw [hk, lin_sum l h0 k (by omega), ← hk, List.take_of_length_le (by rw [List.length_map]; exact Nat.le_refl _)]
/-- A least rotation begins with the least byte. -/
theorem norm_head {P : List UInt8} {b : Nat} (h : IsNorm P b) : ∀ i, (ever P b).toNat ≤ (ever P i).toNat := by
  intro i
  have hb := h.lt
  have hp : 1 ≤ P.length := by omega
  have hi : i % P.length < P.length := Nat.mod_lt _ hp
  have h1 := h.least _ hi
  rw [rot_succ P b (by omega), rot_succ P (i % P.length) (by omega)] at h1
  have hl : ((rotL P (i % P.length + 1)).dropLast).length = ((rotL P (b + 1)).dropLast).length := by simp [rotL_len]
  have hn : ¬ numB (P.getD (i % P.length) 45 :: (rotL P (i % P.length + 1)).dropLast) < numB (P.getD b 45 :: (rotL P (b + 1)).dropLast) := by omega
  rw [numB_cons hl] at hn
  unfold ever
  rw [Nat.mod_eq_of_lt hb]
  omega
theorem norm_goes {l : List UInt8} {b : Nat} (h : IsNorm l b) : goesOn (rotL l b) 0 = 0 := by
  have hb := h.lt
  have hp : 1 ≤ l.length := by omega
  unfold goesOn
  refine if_neg fun ⟨h1, h2⟩ => h1 ?_
  rw [ever_rot l b hp (by omega)] at h1 h2 ⊢
  rw [rotL_len] at h2
  have := norm_head h (0 + l.length - 1 + b)
  rw [h2] at this
  rw [Nat.zero_add]
  exact UInt8.toNat_inj.1 (by have e : (0 : UInt8).toNat = 0 := rfl; omega)
theorem fls_norm {P : List UInt8} (hP : 1 ≤ P.length) (hpic : ∀ x ∈ P, picb x = true) : flsN (P.map unT) = linB ((phsR ((normL P).map unT)).map litP) := by
  have hN := normB_is P hP
  have hM := (IsNorm.map hpic).2 hN
  have hl : (P.map unT).length = P.length := List.length_map _
  have e : (normL P).map unT = rotL (P.map unT) (normB P) := by unfold normL; rw [rot_map]
  rw [e, ← fls_lin _ (by rw [rotL_len, hl]; exact hP) (norm_goes hM), flsN_rot _ _ (by omega) (by have := hN.lt; omega)]
def flsV (ps : List Ph) : Int := if validP ps then (flsN ((onceL (tenL ps)).map unT) : Int) else 0
end Go.Proofs.YtgcaipjknpcepabDoor
