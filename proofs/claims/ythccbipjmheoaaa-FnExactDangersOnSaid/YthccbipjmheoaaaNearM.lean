/- The nearest segment of a channel: what it is; the program's small words. -/
import Derived.Test.YthccbipjmheoaaaLenS
import Derived.Test.YthccbipjmheoaaaGap
import Derived.Test.YthccbipjmheoaaaGapS
namespace Go.Proofs.Ythccbipjmheoaaa
open Go.ChangeShapes Go.WideShapes Go.ChangeAt Go.RowKit Pm

theorem clx6n {w0 w : World} {a0 a1 a2 a3 a4 a5 : Addr} {v0 v1 v2 v3 v4 v5 : Value} (h0 : w.cell? a0 = some v0) (h1 : w.cell? a1 = some v1) (h2 : w.cell? a2 = some v2) (h3 : w.cell? a3 = some v3) (h4 : w.cell? a4 = some v4) (h5 : w.cell? a5 = some v5) (hB : Below w0.heap.size w0 w) :
    ∃ S : World → Prop, (∀ w1 w2, S w1 → Below w1.heap.size w1 w2 → S w2) ∧ S w.drew ∧ (∀ p : Clx S, p.v.cell? a0 = some v0) ∧ (∀ p : Clx S, p.v.cell? a1 = some v1) ∧ (∀ p : Clx S, p.v.cell? a2 = some v2) ∧ (∀ p : Clx S, p.v.cell? a3 = some v3) ∧ (∀ p : Clx S, p.v.cell? a4 = some v4) ∧ (∀ p : Clx S, p.v.cell? a5 = some v5) ∧ ∀ p : Clx S, Below w0.heap.size w0 p.v :=
  ⟨fun w' => w'.cell? a0 = some v0 ∧ w'.cell? a1 = some v1 ∧ w'.cell? a2 = some v2 ∧ w'.cell? a3 = some v3 ∧ w'.cell? a4 = some v4 ∧ w'.cell? a5 = some v5 ∧ Below w0.heap.size w0 w', fun _ _ h hb => keep6 hb h, drew6 ⟨h0, h1, h2, h3, h4, h5, hB⟩, fun p => p.h.1, fun p => p.h.2.1, fun p => p.h.2.2.1, fun p => p.h.2.2.2.1, fun p => p.h.2.2.2.2.1, fun p => p.h.2.2.2.2.2.1, fun p => p.h.2.2.2.2.2.2⟩
theorem gap_exS (ax ay bx cy px py : Int) : ∃ r, GapR ax ay bx cy px py r := by
  by_cases hc : allOk3 ax ay bx cy px py = true
  · obtain ⟨ha, hb, hp⟩ := vd3 hc
    by_cases h1 : alongOf ax ay bx cy px py ≤ 0
    · obtain ⟨r, hr⟩ := root_exS (sqd_nn ax ay px py) (Int.le_trans (sqd_bd ha hp) (by decide))
      exact ⟨r, by unfold GapR GapIs; rw [if_pos hc, if_pos h1]; exact hr⟩
    · by_cases h2 : sqd ax ay bx cy ≤ alongOf ax ay bx cy px py
      · obtain ⟨r, hr⟩ := root_exS (sqd_nn bx cy px py) (Int.le_trans (sqd_bd hb hp) (by decide))
        exact ⟨r, by unfold GapR GapIs; rw [if_pos hc, if_neg h1, if_pos h2]; exact hr⟩
      · have hq : 0 < sqd ax ay bx cy := by
          rcases Int.lt_or_le 0 (sqd ax ay bx cy) with c | c
          · exact c
          · omega
        obtain ⟨r, k0, k1, k2⟩ : ∃ r : Int, 0 ≤ r ∧ r * r * sqd ax ay bx cy ≤ crossOf ax ay bx cy px py * crossOf ax ay bx cy px py ∧ crossOf ax ay bx cy px py * crossOf ax ay bx cy px py < (r + 1) * (r + 1) * sqd ax ay bx cy := by
          have hcc := sq_nn (crossOf ax ay bx cy px py)
          generalize sqd ax ay bx cy = q at *
          generalize crossOf ax ay bx cy px py * crossOf ax ay bx cy px py = c at *
          obtain ⟨r, h3, h4⟩ := sqrt_exS (c / q).toNat
          have hd : 0 ≤ c / q := Int.ediv_nonneg hcc (by omega)
          have e1 : ((r * r : Nat) : Int) ≤ c / q := by omega
          have e2 : c / q + 1 ≤ (((r + 1) * (r + 1) : Nat) : Int) := by omega
          have m1 : c / q * q ≤ c := Int.ediv_mul_le c (by omega)
          have m2 : c < (c / q + 1) * q := Int.lt_ediv_add_one_mul_self c hq
          refine ⟨(r : Int), by omega, ?_, ?_⟩
          · have := Int.mul_le_mul_of_nonneg_right e1 (Int.le_of_lt hq)
            rw [Int.natCast_mul] at this
            omega
          · have := Int.mul_le_mul_of_nonneg_right e2 (Int.le_of_lt hq)
            rw [Int.natCast_mul, Int.natCast_add, Int.natCast_one] at this
            omega
        exact ⟨r, by unfold GapR GapIs; rw [if_pos hc, if_neg h1, if_neg h2]; exact ⟨k0, k1, k2⟩⟩
  · exact ⟨0, by unfold GapR; rw [if_neg hc]⟩
/-- The distance of a point from a segment. -/
noncomputable def gpV (a b p : Int × Int) : Int := Classical.choose (gap_exS a.1 a.2 b.1 b.2 p.1 p.2)
theorem gpV_is (a b p : Int × Int) : GapR a.1 a.2 b.1 b.2 p.1 p.2 (gpV a b p) := Classical.choose_spec (gap_exS a.1 a.2 b.1 b.2 p.1 p.2)
noncomputable def gS (ps : Pts) (p : Int × Int) (i : Nat) : Int := gpV (ps.getD i (0, 0)) (ps.getD (i + 1) (0, 0)) p
/-- The first nearest of the segments 0 .. k. -/
noncomputable def nearUp (ps : Pts) (p : Int × Int) : Nat → Nat
  | 0 => 0
  | k + 1 => if gS ps p (k + 1) < gS ps p (nearUp ps p k) then k + 1 else nearUp ps p k
theorem nearUp_le (ps : Pts) (p : Int × Int) : ∀ k, nearUp ps p k ≤ k
  | 0 => Nat.le_refl _
  | k + 1 => by
    have := nearUp_le ps p k
    simp only [nearUp]
    split <;> omega
theorem sgap_v (a b p : Int × Int) (ha : okB a = true) (hb : okB b = true) (hp : okB p = true) (w : World) :
    Calls Try.prog 79 #[.agg #[.int .i64 a.1, .int .i64 a.2], .agg #[.int .i64 b.1, .int .i64 b.2], .agg #[.int .i64 p.1, .int .i64 p.2]] w fun e w' => e = .returned (.int .i64 (gpV a b p)) ∧ Below w.heap.size w w' :=
  (sgap_in a.1 a.2 b.1 b.2 p.1 p.2 w (by unfold allOk3; rw [show okB (a.1, a.2) = true from ha, show okB (b.1, b.2) = true from hb, show okB (p.1, p.2) = true from hp]; rfl)).mono fun _ _ ⟨r, hr, he, hb⟩ => ⟨by rw [he, hr.one (gpV_is a b p)], hb⟩
theorem disto_any (a b c d x y px py : Int) (w : World) :
    Calls Try.prog 51 #[.agg #[.int .i64 a, .int .i64 b, .int .i64 c, .int .i64 d, .int .i64 x, .int .i64 y], .agg #[.int .i64 px, .int .i64 py]] w fun e w' => e = .returned (.int .i64 (gpV (a, b) (c, d) (px, py))) ∧ Below w.heap.size w w' := by
  have HG := Lib.hid (fun w' => (gap_any a b c d px py w').mono (R' := fun e w'' => e = .returned (.int .i64 (gpV (a, b) (c, d) (px, py))) ∧ Below w'.heap.size w' w'') fun _ _ ⟨r, hr, he, hb⟩ => ⟨by rw [he, hr.one (gpV_is (a, b) (c, d) (px, py))], hb⟩)
  generalize gpV (a, b) (c, d) (px, py) = G at *
  go_enter Try.func51, Try.ntmps51
  go_wp2_with (go_at_call 88; (with_reducible refine (HG.out _).mono ?_); rintro e w1 ⟨rfl, hb⟩; have AC := Lib.hid (Below.next (a := w) (by go_grown) hb); clear hb)
  go_ret
  exact ⟨rfl, AC.out⟩
end Go.Proofs.Ythccbipjmheoaaa
