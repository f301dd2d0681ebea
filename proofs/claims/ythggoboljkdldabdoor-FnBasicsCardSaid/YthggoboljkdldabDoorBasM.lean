/- Plain facts for the law of the basics. -/
import Derived.Test.YthggoboljkdldabDoorR8
import Derived.Test.YthggoboljkdldabDoorBlendI
namespace Go.Proofs.YthggoboljkdldabDoor
open Go.ChangeShapes Go.WideShapes Go.ChangeAt Go.RowKit Pm

/-! ### Quotients -/
theorem quo_near (a b : Int) (hb : 0 < b) : 2 * (a - quo a b * b) ≤ b ∧ -b ≤ 2 * (a - quo a b * b) := by
  have e : 2 * b * quo a b + (2 * a + b) % (2 * b) = 2 * a + b := Int.mul_ediv_add_emod (2 * a + b) (2 * b)
  have h0 := Int.emod_nonneg (2 * a + b) (show 2 * b ≠ 0 by omega)
  have h1 := Int.emod_lt_of_pos (2 * a + b) (show 0 < 2 * b by omega)
  have hm : 2 * b * quo a b = 2 * (quo a b * b) := by rw [Int.mul_assoc, Int.mul_comm b]
  rw [hm] at e
  generalize quo a b * b = t at *
  omega
theorem divR_in {a b : Int} (a0 : -1000000000000 ≤ a) (a1 : a ≤ 1000000000000) (b0 : 0 < b) (b1 : b ≤ 1000000000000) : divR a b = dvp a b := by
  have hin : inB (-1000000000000) 1000000000000 [a, b] = true := by simp [inB]; omega
  unfold divR
  rw [if_neg (by simp [hin]; omega)]
  unfold dvr
  rw [if_neg (by omega)]
theorem dvp_neg (a b : Int) (hb : 0 < b) : dvp (-a) b = -dvp a b := by
  unfold dvp
  by_cases h : a < 0
  · rw [if_pos h, if_neg (by omega)]; omega
  · by_cases h0 : a = 0
    · subst h0
      have : quo 0 b = 0 := by unfold quo; exact Int.ediv_eq_zero_of_lt (by omega) (by omega)
      simp [this]
    · rw [if_pos (by omega), if_neg h, Int.neg_neg]
theorem dvp_near (a b : Int) (hb : 0 < b) : 2 * (a - dvp a b * b) ≤ b ∧ -b ≤ 2 * (a - dvp a b * b) := by
  unfold dvp
  split
  · have := quo_near (-a) b hb
    rw [Int.neg_mul]
    omega
  · exact quo_near a b hb
theorem quo_bd (a b : Int) (h0 : 0 ≤ a) (hb : 0 < b) : 0 ≤ quo a b ∧ quo a b ≤ a := by
  have h1 := quo_near a b hb
  have h2 : 0 ≤ quo a b := by unfold quo; exact Int.ediv_nonneg (by omega) (by omega)
  refine ⟨h2, ?_⟩
  by_cases hz : quo a b ≤ a
  · exact hz
  · have hb1 : quo a b * 1 ≤ quo a b * b := Int.mul_le_mul_of_nonneg_left (by omega) h2
    by_cases hb2 : b = 1
    · subst hb2; omega
    · have hb3 : quo a b * 2 ≤ quo a b * b := Int.mul_le_mul_of_nonneg_left (by omega) h2
      by_cases ha : a = 0
      · subst ha
        have : quo 0 b = 0 := by unfold quo; exact Int.ediv_eq_zero_of_lt (by omega) (by omega)
        omega
      · have hb4 : 1 * b ≤ quo a b * b := Int.mul_le_mul_of_nonneg_right (by omega) (by omega)
        have hb5 : (a + 1) * b ≤ quo a b * b := Int.mul_le_mul_of_nonneg_right (by omega) (by omega)
        have hb6 : a * 1 ≤ a * (b - 1) := Int.mul_le_mul_of_nonneg_left (by omega) h0
        rw [Int.add_mul, Int.one_mul] at hb5
        rw [Int.mul_sub, Int.mul_one] at hb6
        omega
theorem dvp_bd (a b : Int) (hb : 0 < b) (h0 : -4000000000 ≤ a) (h1 : a ≤ 4000000000) : -4000000000 ≤ dvp a b ∧ dvp a b ≤ 4000000000 := by
  unfold dvp
  split
  · have := quo_bd (-a) b (by omega) hb; omega
  · have := quo_bd a b (by omega) hb; omega

/-! ### The line -/
theorem line_at (y z x : Int) (y0 : -2500 ≤ y) (y1 : y < 2500) (z0 : -2500 ≤ z) (z1 : z < 2500) (x0 : 0 ≤ x) (x1 : x ≤ 1000) :
    min y z ≤ blendV 0 y 1000 z x ∧ blendV 0 y 1000 z x ≤ max y z := by
  have hin : inB (-1000000) 1000000 [0, y, 1000, z] = true := by simp [inB]; omega
  unfold blendV lineV
  rw [if_pos hin]
  by_cases h0 : x ≤ 0 ∨ (1000 : Int) ≤ 0
  · rw [if_pos h0]; omega
  · rw [if_neg h0]
    by_cases h1 : (1000 : Int) ≤ x
    · rw [if_pos h1]; omega
    · rw [if_neg h1]
      rw [show x - 0 = x by omega, show (1000 : Int) - 0 = 1000 by omega]
      unfold dvr
      rw [if_neg (by omega)]
      unfold dvp
      by_cases hd : z - y < 0
      · have e1 : (z - y) * x < 0 := Int.mul_neg_of_neg_of_pos hd (by omega)
        have e2 : (y - z) * x ≤ (y - z) * 1000 := Int.mul_le_mul_of_nonneg_left (by omega) (by omega)
        have e3 : -((z - y) * x) = (y - z) * x := by rw [← Int.neg_mul]; congr 1; omega
        rw [if_pos e1, e3]
        rw [← e3] at e2
        have e4 : 0 ≤ (y - z) * x := by omega
        generalize (y - z) * x = t at *
        unfold quo
        omega
      · have e1 : 0 ≤ (z - y) * x := Int.mul_nonneg (by omega) (by omega)
        have e2 : (z - y) * x ≤ (z - y) * 1000 := Int.mul_le_mul_of_nonneg_left (by omega) (by omega)
        rw [if_neg (by omega)]
        generalize (z - y) * x = t at *
        unfold quo
        omega
theorem line_low (y z : Int) (y0 : -2500 ≤ y) (y1 : y < 2500) (z0 : -2500 ≤ z) (z1 : z < 2500) : blendV 0 y 1000 z 0 = y := by
  have hin : inB (-1000000) 1000000 [0, y, 1000, z] = true := by simp [inB]; omega
  unfold blendV lineV
  rw [if_pos hin, if_pos (by omega)]
theorem line_high (y z : Int) (y0 : -2500 ≤ y) (y1 : y < 2500) (z0 : -2500 ≤ z) (z1 : z < 2500) : blendV 0 y 1000 z 1000 = z := by
  have hin : inB (-1000000) 1000000 [0, y, 1000, z] = true := by simp [inB]; omega
  unfold blendV lineV
  rw [if_pos hin, if_neg (by omega), if_pos (by omega)]

/-! ### Texts read back -/
theorem comma_not {l : List UInt8} (h : canB l = true) : (44 : UInt8) ∉ l := by
  obtain ⟨_, _, _, hd⟩ := canB_out h
  have hb : (44 : UInt8) ∉ body l := by
    intro hm
    have := List.all_eq_true.1 hd _ hm
    revert this; decide
  unfold body at hb
  split at hb
  · rename_i hh
    cases l with
    | nil => simp at hh
    | cons c r =>
      simp at hh
      subst hh
      rw [List.mem_cons, not_or]
      exact ⟨by decide, by simpa using hb⟩
  · exact hb
theorem jn_two (a b : Int) (r : List Int) : jn (a :: b :: r) = Lib.itoa a ++ 44 :: jn (b :: r) := by
  simp [jn, Lib.join_cons, Lib.joinTail]
theorem cut_jn : ∀ (zs : List Int), zs ≠ [] → (∀ z ∈ zs, canB (Lib.itoa z) = true) → cutAt 44 (jn zs) = zs.map Lib.itoa
  | [], h, _ => absurd rfl h
  | [a], _, h => by rw [jn_one, cutAt_miss _ _ (comma_not (h a (by simp)))]; rfl
  | a :: b :: r, _, h => by
    rw [jn_two, cutAt_hit _ _ _ (comma_not (h a (by simp))), cut_jn (b :: r) (by simp) (fun z hz => h z (by simp at hz ⊢; exact .inr hz))]
    rfl
theorem can_in {z : Int} (h0 : -1000000000000 ≤ z) (h1 : z ≤ 1000000000000) : canB (Lib.itoa z) = true ∧ numR (Lib.itoa z) = z := by
  obtain ⟨h2, h3⟩ := canB_itoa (n := z) (by omega) (by omega)
  exact ⟨h2, (numR_yes h2).trans h3⟩
theorem read_back (zs : List Int) (h2 : 2 ≤ zs.length) (h64 : zs.length ≤ 64) (hin : inB (-1000000000000) 1000000000000 zs = true) :
    rlB ⟨(jn zs).toArray⟩ = true ∧ rlZ ⟨(jn zs).toArray⟩ = zs := by
  have hall : ∀ z ∈ zs, -1000000000000 ≤ z ∧ z ≤ 1000000000000 := by
    intro z hz
    unfold inB at hin
    have := List.all_eq_true.1 hin z hz
    simpa using this
  have hne : zs ≠ [] := by intro e; subst e; simp at h2
  have hc := cut_jn zs hne (fun z hz => (can_in (hall z hz).1 (hall z hz).2).1)
  have hcS : cutS 44 ⟨(jn zs).toArray⟩ = zs.map fun z => ⟨(Lib.itoa z).toArray⟩ := by
    unfold cutS
    rw [show (⟨(jn zs).toArray⟩ : ByteArray).data.toList = jn zs from rfl, hc, List.map_map]
    rfl
  have hd : (⟨(jn zs).toArray⟩ : ByteArray).data.toList ≠ [45] := by
    intro e
    rw [show (⟨(jn zs).toArray⟩ : ByteArray).data.toList = jn zs from rfl] at e
    rw [e] at hc
    have := congrArg List.length hc
    rw [cutAt_miss _ _ (by decide)] at this
    simp at this
    omega
  have hok : (cutS 44 ⟨(jn zs).toArray⟩).all numOk = true := by
    rw [hcS, List.all_map, List.all_eq_true]
    intro z hz
    obtain ⟨q0, q1⟩ := hall z hz
    obtain ⟨q2, q3⟩ := can_in q0 q1
    show (canB (Lib.itoa z) && inB (-1000000000000) 1000000000000 [numR (Lib.itoa z)]) = true
    rw [q2, q3]
    simp [inB]; omega
  obtain ⟨r1, r2⟩ := rl_yes hd (by rw [hcS, List.length_map]; exact h64) hok
  refine ⟨r1, ?_⟩
  rw [r2, hcS, List.map_map]
  conv => rhs; rw [← List.map_id zs]
  apply List.map_congr_left
  intro z hz
  exact (can_in (hall z hz).1 (hall z hz).2).2

/-! ### Roots -/
theorem root_bd {a r : Int} (h : Root a r) (h1 : a ≤ 3600000000) : 0 ≤ r ∧ r ≤ 60000 := by
  obtain ⟨r0, _, hn, hp⟩ := h
  refine ⟨r0, ?_⟩
  by_cases ha : a < 0
  · rw [hn ha]; omega
  · by_cases h2 : r ≤ 60000
    · exact h2
    · have h3 : (60001 : Int) * 60001 ≤ r * r := Int.mul_le_mul (by omega) (by omega) (by omega) (by omega)
      have := (hp (by omega)).1
      omega
end Go.Proofs.YthggoboljkdldabDoor
