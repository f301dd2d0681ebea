/- The program's Blend. -/
import Derived.Test.YthheacebafleeacGreatDoorInts
import Derived.Deep.RegionHeld
namespace Go.Proofs.YthheacebafleeacGreatDoor
open Go.ChangeShapes Go.WideShapes Go.ChangeAt Go.RowKit Pm

/-- The value at x of the line through two points, or that of the nearer end. -/
def lineV (x0 y0 x1 y1 x : Int) : Int :=
  if x ≤ x0 ∨ x1 ≤ x0 then y0 else if x1 ≤ x then y1 else y0 + dvr ((y1 - y0) * (x - x0)) (x1 - x0)
def blendV (x0 y0 x1 y1 x : Int) : Int :=
  if inB (-1000000) 1000000 [x0, y0, x1, y1] = true then lineV x0 y0 x1 y1 x else 0

theorem blnd_mul_bd (a b A B : Int) (h1 : -A ≤ a) (h2 : a ≤ A) (h3 : 0 ≤ b) (h4 : b ≤ B) : -(A * B) ≤ a * b ∧ a * b ≤ A * B := by
  have hA : 0 ≤ A := by omega
  have e1 : a * b ≤ A * b := Int.mul_le_mul_of_nonneg_right h2 h3
  have e2 : -A * b ≤ a * b := Int.mul_le_mul_of_nonneg_right h1 h3
  have e3 : A * b ≤ A * B := Int.mul_le_mul_of_nonneg_left h4 hA
  rw [Int.neg_mul] at e2
  omega

theorem blnd_quo_mul (k c : Int) (hc : 0 < c) : quo (k * c) c = k := by
  unfold quo
  rw [show 2 * (k * c) + c = c + k * (2 * c) by rw [Int.mul_left_comm]; omega]
  rw [Int.add_mul_ediv_right _ _ (by omega), Int.ediv_eq_zero_of_lt (by omega) (by omega)]
  omega

theorem blnd_dvr_mul (k c : Int) (hc : 0 < c) : dvr (k * c) c = k := by
  unfold dvr dvp
  rw [if_neg (by omega)]
  split
  · rw [← Int.neg_mul, blnd_quo_mul _ _ hc]; omega
  · exact blnd_quo_mul _ _ hc

theorem blnd_dvr_bd (a b : Int) (ha0 : -10000000000000 ≤ a) (ha : a ≤ 10000000000000) (hb : 0 < b) (hb2 : b ≤ 1000000000000) : -30000000000000 ≤ dvr a b ∧ dvr a b ≤ 30000000000000 := by
  unfold dvr dvp quo
  rw [if_neg (by omega)]
  split
  · have := div_bd (2 * -a + b) (2 * b) 30000000000000 (by omega) (by omega) (by omega)
    omega
  · have := div_bd (2 * a + b) (2 * b) 30000000000000 (by omega) (by omega) (by omega)
    omega

theorem blnd_four (lo hi a b c d : Int) : inB lo hi [a, b, c, d] = (inB lo hi [a] && inB lo hi [b] && inB lo hi [c] && inB lo hi [d]) := by simp [inB, Bool.and_assoc]
theorem blnd_in {lo hi a : Int} (h : inB lo hi [a] = true) : lo ≤ a ∧ a ≤ hi := by simpa [inB] using h

/-- Behind new blocks a slice reads as it did. -/
theorem IntsAre.blnd_alloc {k : IntKind} {w : World} {sv : Value} {zs : List Int} (h : IntsAre k w sv zs) (o : Obj) : IntsAre k (w.alloc o) sv zs := by
  rcases h with h | ⟨b, off, cap, h1, h2, h3⟩
  · exact .inl h
  · exact .inr ⟨b, off, cap, h1, h2, fun i hi => by rw [World.cell?_alloc_some _ _ _ (by rw [h3 i hi]; rfl)]; exact h3 i hi⟩

theorem blnd_one_at (w : World) (k : IntKind) (a : Int) (T : TypeId) (b : Nat) (hb : w.heap.size = b) : IntsAre k (w.alloc (.cells #[Value.int k a] T)) (.slice (some ⟨b, 0, none⟩) 1 1) [a] := by
  subst hb; exact ints_one w k a T

theorem blend_no (x0 y0 x1 y1 x : Int) (w : World) (c : inB (-1000000) 1000000 [x0, y0, x1, y1] = false) :
    Calls Tryz.prog 57 #[.int .i64 x0, .int .i64 y0, .int .i64 x1, .int .i64 y1, .int .i64 x] w fun e w' => e = .returned (.int .i64 (blendV x0 y0 x1 y1 x)) ∧ Below w.heap.size w w' := by
  have H4 := ints_four w x0 y0 x1 y1
  have hv := Lib.hid (show blendV x0 y0 x1 y1 x = 0 by simp [blendV, c])
  go_enter Tryz.func57, Tryz.ntmps57
  go_wp2_with (go_at_call 36; refine (within_any _ _ _ _ _ H4).mono ?_; rintro e w' ⟨rfl, rfl⟩)
  go_ret
  exact ⟨ret_i hv.out.symm, (Below.refl _ _).alloc (Nat.le_refl _) _⟩

theorem blend_low (x0 y0 x1 y1 x : Int) (w : World) (c : inB (-1000000) 1000000 [x0, y0, x1, y1] = true) (h2 : x1 ≤ x0) :
    Calls Tryz.prog 57 #[.int .i64 x0, .int .i64 y0, .int .i64 x1, .int .i64 y1, .int .i64 x] w fun e w' => e = .returned (.int .i64 (blendV x0 y0 x1 y1 x)) ∧ Below w.heap.size w w' := by
  have H4 := ints_four w x0 y0 x1 y1
  have hv := Lib.hid (show blendV x0 y0 x1 y1 x = y0 by unfold blendV lineV; rw [if_pos c, if_pos (Or.inr h2)])
  go_enter Tryz.func57, Tryz.ntmps57
  go_wp2_with (go_at_call 36; refine (within_any _ _ _ _ _ H4).mono ?_; rintro e w' ⟨rfl, rfl⟩)
  go_ret
  exact ⟨ret_i hv.out.symm, (Below.refl _ _).alloc (Nat.le_refl _) _⟩

/-- The road to the quotient: z is x, moved to the nearer end. -/
theorem blend_go (x0 y0 x1 y1 x z v : Int) (w : World) (c : inB (-1000000) 1000000 [x0, y0, x1, y1] = true) (h2 : x0 < x1)
    (hz : leastOf (greatestOf x [x0]) [x1] = z) (z0 : x0 ≤ z) (z1 : z ≤ x1) (hv : y0 + dvr ((y1 - y0) * (z - x0)) (x1 - x0) = v) :
    Calls Tryz.prog 57 #[.int .i64 x0, .int .i64 y0, .int .i64 x1, .int .i64 y1, .int .i64 x] w fun e w' => e = .returned (.int .i64 v) ∧ Below w.heap.size w w' := by
  have H4 := ints_four w x0 y0 x1 y1
  have c' := c
  rw [blnd_four] at c'
  simp only [Bool.and_eq_true] at c'
  obtain ⟨⟨⟨c0, c1⟩, c2⟩, c3⟩ := c'
  have l0 := blnd_in c0
  have l1 := blnd_in c1
  have l2 := blnd_in c2
  have l3 := blnd_in c3
  clear c0 c1 c2 c3
  obtain ⟨m1, m2⟩ := blnd_mul_bd (y1 - y0) (z - x0) 2000000 2000000 (by omega) (by omega) (by omega) (by omega)
  obtain ⟨d1, d2⟩ := blnd_dvr_bd ((y1 - y0) * (z - x0)) (x1 - x0) (by omega) (by omega) (by omega) (by omega)
  have HV := Lib.hid hv; clear hv
  have HZ := Lib.hid hz; clear hz
  go_enter Tryz.func57, Tryz.ntmps57
  go_wp2_with (fail)
  refine (within_any _ _ _ _ _ H4).mono ?_; rintro e w' ⟨rfl, rfl⟩
  clear H4
  go_wp2_with (fail)
  refine (greatest_any _ _ _ _ (blnd_one_at _ _ _ _ _ (by simp))).mono ?_; rintro e w' ⟨rfl, rfl⟩
  go_wp2_with (fail)
  refine (least_any _ _ _ _ (blnd_one_at _ _ _ _ _ (by simp))).mono ?_; rintro e w' ⟨he, rfl⟩
  rw [HZ.out] at he; subst he
  go_wp2_with (go_at_call 72; refine (nq_any _ _ _ (by omega) (by omega) (by omega) (by omega) (by omega)).mono ?_; rintro e w' ⟨rfl, rfl⟩)
  go_ret
  exact ⟨ret_i HV.out, (((Below.refl _ _).alloc (Nat.le_refl _) _).alloc (by simp) _).alloc (by simp; omega) _⟩

theorem blnd_clamp {x a b g z : Int} (h1 : (if x < a then a else x) = g) (h2 : (if b < g then b else g) = z) : leastOf (greatestOf x [a]) [b] = z := by
  subst h1; exact h2

theorem blend_any (x0 y0 x1 y1 x : Int) (w : World) :
    Calls Tryz.prog 57 #[.int .i64 x0, .int .i64 y0, .int .i64 x1, .int .i64 y1, .int .i64 x] w fun e w' => e = .returned (.int .i64 (blendV x0 y0 x1 y1 x)) ∧ Below w.heap.size w w' := by
  cases c : inB (-1000000) 1000000 [x0, y0, x1, y1]
  · exact blend_no x0 y0 x1 y1 x w c
  by_cases h2 : x1 ≤ x0
  · exact blend_low x0 y0 x1 y1 x w c h2
  have hl : blendV x0 y0 x1 y1 x = lineV x0 y0 x1 y1 x := by unfold blendV; rw [if_pos c]
  rw [hl]
  by_cases h1 : x ≤ x0
  · refine blend_go x0 y0 x1 y1 x x0 _ w c (by omega) ?_ (by omega) (by omega) ?_
    · exact blnd_clamp (g := x0) (by split <;> omega) (by split <;> omega)
    · unfold lineV
      rw [if_pos (Or.inl h1), show (y1 - y0) * (x0 - x0) = 0 * (x1 - x0) by simp, blnd_dvr_mul _ _ (by omega)]
      omega
  by_cases h3 : x1 ≤ x
  · refine blend_go x0 y0 x1 y1 x x1 _ w c (by omega) ?_ (by omega) (by omega) ?_
    · exact blnd_clamp (g := x) (by split <;> omega) (by split <;> omega)
    · unfold lineV
      rw [if_neg (by omega), if_pos h3, blnd_dvr_mul _ _ (by omega)]
      omega
  · refine blend_go x0 y0 x1 y1 x x _ w c (by omega) ?_ (by omega) (by omega) ?_
    · exact blnd_clamp (g := x) (by split <;> omega) (by split <;> omega)
    · unfold lineV
      rw [if_neg (by omega), if_neg (by omega)]
end Go.Proofs.YthheacebafleeacGreatDoor
