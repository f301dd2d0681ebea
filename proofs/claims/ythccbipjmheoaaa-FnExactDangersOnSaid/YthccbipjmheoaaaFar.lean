/- The model's product in two parts, and its search for a square's quotient. -/
import Derived.Test.YthccbipjmheoaaaFarM
import Derived.Test.YthccbipjmheoaaaDiv
import Derived.LoopTactic
namespace Go.Proofs.Ythccbipjmheoaaa
open Go.ChangeShapes Go.WideShapes Go.ChangeAt Go.RowKit Pm

theorem sproduct_any (a b : Int) (w : World) (a0 : 0 ≤ a) (a1 : a ≤ 90000000000) (b0 : 0 ≤ b) (b1 : b ≤ 90000000000) :
    Calls Try.prog 124 #[.int .i64 a, .int .i64 b] w fun e w' => ∃ h r, PartsOf (a * b) h r ∧ e = .returned (.tuple #[.int .i64 h, .int .i64 r]) ∧ w = w' := by
  obtain ⟨⟨p1, q1⟩, ⟨p2, q2⟩, ⟨p3, q3⟩, ⟨p4, q4⟩, hp⟩ := product_facts a0 a1 b0 b1
  have HP := Lib.hid hp
  clear hp
  go_enter Try.func124, Try.ntmps124
  go_wp2
  go_ret2
  exact ⟨_, _, HP.out, rfl, rfl⟩

theorem far_case {n d m h r hi rest : Int} (p : PartsOf (m * m * d) h r) (q : PartsOf n hi rest) :
    (h < hi → m * m * d ≤ n) ∧ (h = hi → r ≤ rest → m * m * d ≤ n) ∧ (hi < h → n < m * m * d) ∧ (h = hi → rest < r → n < m * m * d) := by
  unfold PartsOf at p q
  refine ⟨fun _ => by omega, fun _ _ => by omega, fun _ => by omega, fun _ _ => by omega⟩

def FarRet (x d : Int) (w : World) (e : Ending) (w' : World) : Prop := ∃ r, (0 ≤ r ∧ r * r * d ≤ x * x ∧ x * x < (r + 1) * (r + 1) * d) ∧ e = .returned (.int .i64 r) ∧ w = w'

theorem sfar_any (x d : Int) (w : World) (x0 : 0 ≤ x) (x1 : x ≤ 90000000000) (d0 : 0 ≤ d) (d1 : d ≤ 90000000000) (hx : x * x < 300001 * 300001 * d) :
    Calls Try.prog 105 #[.int .i64 x, .int .i64 d] w (FarRet x d w) := by
  have H1 := Lib.hid (sproduct_any x x w x0 x1 x0 x1)
  have H2 := Lib.hid (fun m (m0 : 0 ≤ m) (m1 : m ≤ 90000000000) => sproduct_any m d w m0 m1 d0 d1)
  have HX := Lib.hid hx
  have HN := Lib.hid (sq_nn x)
  clear hx
  go_enter Try.func105, Try.ntmps105
  go_wp2_with (go_at_call 124; refine H1.out.mono ?_; rintro e w1 ⟨hi, rest, hp, rfl, rfl⟩; have HP := Lib.hid hp; clear hp)
  go_loop [7, 8] (fun l h => ∃ lo hh : Int, l = .int .i64 lo ∧ h = .int .i64 hh ∧ 0 ≤ lo ∧ lo ≤ hh ∧ hh ≤ 300000 ∧ lo * lo * d ≤ x * x ∧ x * x < (hh + 1) * (hh + 1) * d) (fun l h => (intOf h - intOf l).toNat)
  case atStart => exact ⟨0, 300000, rfl, rfl, by omega, by omega, by omega, by simpa using HN.out, HX.out⟩
  case round =>
    obtain ⟨lo, hh, rfl, rfl, l0, lh, h3, f1, f2⟩ := hrel
    have F1 := Lib.hid f1
    have F2 := Lib.hid f2
    clear f1 f2
    by_cases hlt : lo < hh
    · obtain ⟨m, hm⟩ : ∃ m, (lo + hh + 1) / 2 = m := ⟨_, rfl⟩
      have m1 : lo < m := by omega
      have m2 : m ≤ hh := by omega
      obtain ⟨s0, s1⟩ := sq_room (show 0 ≤ m by omega) (by omega)
      have H3 := Lib.hid (H2.out (m * m) s0 s1)
      have HE := Lib.hid (show (m - 1 + 1) * (m - 1 + 1) * d = m * m * d by rw [show m - 1 + 1 = m by omega])
      go_wp2_with (go_at_call 124; refine H3.out.mono ?_; rintro e w1 ⟨h, r, hp2, rfl, rfl⟩; refine Hid.out ?_)
      refine Lib.hid ?_
      have HC := Lib.hid (far_case hp2 HP.out)
      clear hp2
      by_cases g1 : h < hi
      · have HV := Lib.hid (HC.out.1 g1)
        go_wp2_with (fail)
        refine ⟨⟨m, hh, ret_v (by omega), rfl, by omega, by omega, by omega, HV.out, F2.out⟩, ?_⟩
        simp only [intOf]; omega
      · by_cases g2 : hi < h
        · have HV := Lib.hid (HC.out.2.2.1 g2)
          have g3 : (h == hi) = false := by simp; omega
          go_wp2_with (fail)
          refine ⟨⟨lo, m - 1, rfl, ret_v (by omega), by omega, by omega, by omega, F1.out, by rw [HE.out]; exact HV.out⟩, ?_⟩
          simp only [intOf]; omega
        · obtain rfl : h = hi := by omega
          by_cases g3 : r ≤ rest
          · have HV := Lib.hid (HC.out.2.1 rfl g3)
            go_wp2_with (fail)
            refine ⟨⟨m, hh, ret_v (by omega), rfl, by omega, by omega, by omega, HV.out, F2.out⟩, ?_⟩
            simp only [intOf]; omega
          · have HV := Lib.hid (HC.out.2.2.2 rfl (by omega))
            go_wp2_with (fail)
            refine ⟨⟨lo, m - 1, rfl, ret_v (by omega), by omega, by omega, by omega, F1.out, by rw [HE.out]; exact HV.out⟩, ?_⟩
            simp only [intOf]; omega
    · obtain rfl : lo = hh := by omega
      go_wp2
      go_ret
      exact ⟨lo, ⟨l0, F1.out, F2.out⟩, rfl, rfl⟩
end Go.Proofs.Ythccbipjmheoaaa
