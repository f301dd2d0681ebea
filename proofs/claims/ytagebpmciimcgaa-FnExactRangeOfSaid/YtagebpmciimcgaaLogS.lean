/- The model's logarithm, and whether an intensity is enough. -/
import Derived.Test.YtagebpmciimcgaaLogL
namespace Go.Proofs.Ytagebpmciimcgaa
open Go.ChangeShapes Go.WideShapes Go.ChangeAt Go.RowKit Pm

theorem quo_first {n m : Int} {k : Nat} (hm : m = n / (10 : Int) ^ k) (m1 : 1 ≤ m) (m2 : m < 10) : (10 : Int) ^ k ≤ n ∧ n < (10 : Int) ^ (k + 1) := by
  have hp : (0 : Int) < 10 ^ k := by have := p10 k; omega
  rw [hm] at m1 m2
  have a := (Int.le_ediv_iff_mul_le hp).1 m1
  have b := (Int.ediv_lt_iff_lt_mul hp).1 m2
  rw [Int.pow_succ]
  omega

/-- A number with a place: its significand is found by multiplying or by dividing. -/
theorem sig_mul {n : Int} {r : Nat} (h1 : 1 ≤ n) (h2 : n ≤ 1000000000000000000) (h : (10 : Int) ^ r ≤ n ∧ n < (10 : Int) ^ (r + 1)) (hr : r ≤ 8) : n * (10 : Int) ^ (8 - r) = sigX n ∧ (r : Int) = plcOf n := by
  have e8 : (10 : Int) ^ r * 10 ^ (8 - r) = 100000000 := by rw [← Int.pow_add, show r + (8 - r) = 8 by omega]; decide
  have e9 : (10 : Int) ^ (r + 1) * 10 ^ (8 - r) = 1000000000 := by rw [← Int.pow_add, show r + 1 + (8 - r) = 9 by omega]; decide
  have hq : (0 : Int) < 10 ^ (8 - r) := by have := p10 (8 - r); omega
  exact part_is h1 h2 ⟨by rw [← e8]; exact Int.mul_le_mul_of_nonneg_right h.1 (by omega), by rw [← e9]; exact Int.mul_lt_mul_of_pos_right h.2 hq⟩ (.inl ⟨8 - r, by omega, rfl⟩)
theorem sig_quo {n : Int} {r : Nat} (h1 : 1 ≤ n) (h2 : n ≤ 1000000000000000000) (h : (10 : Int) ^ r ≤ n ∧ n < (10 : Int) ^ (r + 1)) (hr : 8 ≤ r) : n / (10 : Int) ^ (r - 8) = sigX n ∧ (r : Int) = plcOf n := by
  obtain ⟨a, b⟩ := h
  have e8 : (10 : Int) ^ r = 100000000 * 10 ^ (r - 8) := by rw [show (100000000 : Int) = 10 ^ 8 by decide, ← Int.pow_add, show 8 + (r - 8) = r by omega]
  have e9 : (10 : Int) ^ (r + 1) = 1000000000 * 10 ^ (r - 8) := by rw [show (1000000000 : Int) = 10 ^ 9 by decide, ← Int.pow_add, show 9 + (r - 8) = r + 1 by omega]
  have hq : (0 : Int) < 10 ^ (r - 8) := by have := p10 (r - 8); omega
  rw [e8] at a
  rw [e9] at b
  exact part_is h1 h2 ⟨(Int.le_ediv_iff_mul_le hq).2 a, (Int.ediv_lt_iff_lt_mul hq).2 b⟩ (.inr ⟨r - 8, by omega, rfl⟩)

/-- The number multiplied so far is small. -/
theorem mul_bd {n : Int} {r j : Nat} (h : (10 : Int) ^ r ≤ n ∧ n < (10 : Int) ^ (r + 1)) (h1 : 1 ≤ n) (hj : r + j ≤ 8) : 1 ≤ n * (10 : Int) ^ j ∧ n * (10 : Int) ^ j < 1000000000 := by
  have hq : (0 : Int) < 10 ^ j := by have := p10 j; omega
  have a : n * (10 : Int) ^ j < 10 ^ (r + 1) * 10 ^ j := Int.mul_lt_mul_of_pos_right h.2 hq
  rw [← Int.pow_add] at a
  have b := p10_mono (show r + 1 + j ≤ 9 by omega)
  rw [show (10 : Int) ^ 9 = 1000000000 by decide] at b
  have c : 1 * 1 ≤ n * (10 : Int) ^ j := Int.mul_le_mul h1 (p10 j) (by omega) (by omega)
  omega

set_option maxHeartbeats 2000000 in
set_option maxRecDepth 100000 in
theorem slog_any (n : Int) (w : World) (h1 : 1 ≤ n) (h2 : n ≤ 1000000000000) :
    Calls Try.prog 52 #[.int .i64 n] w fun e w' => e = .returned (.int .i64 (logV n)) ∧ w = w' := by
  go_enter Try.func52, Try.ntmps52
  go_wp2
  go_loop [3, 4] (fun a b => ∃ (k : Nat) (m : Int), a = .int .i64 k ∧ b = .int .i64 m ∧ 1 ≤ m ∧ m + k ≤ n ∧ Hid (m = n / (10 : Int) ^ k)) (fun _ b => (intOf b).toNat)
  case atStart => exact ⟨0, n, rfl, rfl, h1, by omega, Lib.hid (by simp)⟩
  case round =>
    obtain ⟨k, m, rfl, rfl, m1, m2, HQ⟩ := hrel
    by_cases hm : 10 ≤ m
    · go_wp2
      go_round
      case rel => exact ⟨k + 1, m / 10, by go_num, rfl, by omega, by omega, Lib.hid (quo_next HQ.out)⟩
      case measure => simp only [intOf]; omega
    · have hr := quo_first HQ.out m1 (by omega)
      have HR := Lib.hid hr
      have k0 : k ≤ 12 := by
        by_cases c : k ≤ 12
        · exact c
        · have := p10_mono (show 13 ≤ k by omega)
          rw [show (10 : Int) ^ 13 = 10000000000000 by decide] at this
          have := hr.1
          omega
      clear hr HQ m2
      go_wp2
      go_loop [5, 6] (fun a b => ∃ (j : Nat) (x : Int), a = .int .i64 x ∧ b = .int .i64 ((k : Int) + j) ∧ (j = 0 ∨ k + j ≤ 8) ∧ 1 ≤ x ∧ x ≤ 1000000000000 ∧ Hid (x = n * (10 : Int) ^ j)) (fun _ b => (8 - intOf b).toNat)
      case atStart => exact ⟨0, n, rfl, ret_v (by omega), .inl rfl, h1, h2, Lib.hid (by simp)⟩
      case round =>
        obtain ⟨j, x, rfl, rfl, j0, x0, x1, HX⟩ := hrel
        by_cases hj : (k : Int) + j < 8
        · have hb := mul_bd (j := j) HR.out h1 (by omega)
          have hb1 := mul_bd (j := j + 1) HR.out h1 (by omega)
          have hx : x * 10 = n * (10 : Int) ^ (j + 1) := by rw [HX.out, Int.pow_succ, Int.mul_assoc]
          have hx0 := HX.out
          rw [← hx0] at hb
          rw [← hx] at hb1
          have HX1 := Lib.hid hx
          clear hx hx0
          go_wp2
          go_round
          case rel => exact ⟨j + 1, x * 10, rfl, ret_v (by omega), by omega, by omega, by omega, HX1⟩
          case measure => simp only [intOf]; omega
        · have HL := Lib.hid (show (8 < k → x = n) ∧ (k ≤ 8 → x = sigX n ∧ (k : Int) = plcOf n) from ⟨fun c => by
              obtain rfl : j = 0 := by omega
              have := HX.out
              simpa using this, fun c => by
              obtain rfl : j = 8 - k := by omega
              have := sig_mul h1 (by omega) HR.out c
              rw [← HX.out] at this
              exact this⟩)
          clear HX
          go_wp2
          go_loop [5, 7] (fun a b => ∃ (i : Nat) (z : Int), a = .int .i64 z ∧ b = .int .i64 ((k : Int) - i) ∧ i ≤ 12 ∧ (i = 0 ∨ i + 8 ≤ k) ∧ 1 ≤ z ∧ z ≤ 1000000000000 ∧ Hid ((i = 0 → z = x) ∧ (8 ≤ k → z = n / (10 : Int) ^ i))) (fun _ b => (intOf b + 8).toNat)
          case atStart => exact ⟨0, x, rfl, ret_v (by omega), by omega, .inl rfl, x0, x1, Lib.hid ⟨fun _ => rfl, fun c => by
            by_cases d : k = 8
            · obtain ⟨e, _⟩ := HL.out.2 (by omega)
              have := (sig_quo h1 (by omega) HR.out (by omega)).1
              rw [e, ← this, d]
            · rw [HL.out.1 (by omega)]; simp⟩⟩
          case round =>
            obtain ⟨i, z, rfl, rfl, i0, i1, z0, z1, HZ⟩ := hrel
            by_cases hi : 8 < (k : Int) - i
            · have hz : z / 10 = n / (10 : Int) ^ (i + 1) := quo_next (HZ.out.2 (by omega))
              have hz1 : 1 ≤ z / 10 := by
                have a := (sig_quo h1 (by omega) HR.out (by omega))
                have b : n / (10 : Int) ^ (k - 8) ≤ n / (10 : Int) ^ (i + 1) := by
                  have hp : (0 : Int) < 10 ^ (k - 8) := by have := p10 (k - 8); omega
                  have hp2 : (0 : Int) < 10 ^ (i + 1) := by have := p10 (i + 1); omega
                  refine (Int.le_ediv_iff_mul_le hp2).2 ?_
                  have c := Int.ediv_mul_le n (show (10 : Int) ^ (k - 8) ≠ 0 by omega)
                  have d : n / (10 : Int) ^ (k - 8) * 10 ^ (i + 1) ≤ n / (10 : Int) ^ (k - 8) * 10 ^ (k - 8) := Int.mul_le_mul_of_nonneg_left (p10_mono (by omega)) (Int.ediv_nonneg (by omega) (by omega))
                  omega
                have c := (sigX_part n h1 (by omega)).1.1
                rw [a.1] at b
                omega
              have HZ1 := Lib.hid hz
              clear hz
              go_wp2
              go_round
              case rel => exact ⟨i + 1, z / 10, rfl, ret_v (by omega), by omega, by omega, by omega, by omega, Lib.hid ⟨fun c => by omega, fun _ => HZ1.out⟩⟩
              case measure => simp only [intOf]; omega
            · have HS := Lib.hid (show z = sigX n ∧ (k : Int) = plcOf n from by
                by_cases c : 8 ≤ k
                · obtain rfl : i = k - 8 := by omega
                  have := sig_quo h1 (by omega) HR.out c
                  rw [← HZ.out.2 c] at this
                  exact this
                · obtain rfl : i = 0 := by omega
                  have := HL.out.2 (by omega)
                  rw [← HZ.out.1 rfl] at this
                  exact this)
              have HG := Lib.hid (fun k => logG_sig h1 h2 k)
              have HB := Lib.hid (fun k (hk : k ≤ 3) => logG_bd h1 h2 hk)
              have H0 := Lib.hid (show (logG n 0).1 = z ∧ (logG n 0).2 = (k : Int) from ⟨HS.out.1.symm, HS.out.2.symm⟩)
              have HV := Lib.hid (logG_three n)
              have HN := Lib.hid (show ∀ k, (logG n (k + 1)).1 = tenY (logG n k).1 ∧ (logG n (k + 1)).2 = 10 * (logG n k).2 + tenD (logG n k).1 from fun _ => ⟨rfl, rfl⟩)
              clear HS HZ HL HR z0 z1 x0 x1 hm m1
              generalize logG n = g at *
              go_wp2
              go_loop [3, 5, 8] (fun a b c => ∃ (q : Nat), q ≤ 3 ∧ a = .int .i64 (g q).2 ∧ b = .int .i64 (g q).1 ∧ c = .int .i64 q) (fun _ _ c => 3 - (intOf c).toNat)
              case atStart => exact ⟨0, by omega, ret_v H0.out.2.symm, ret_v H0.out.1.symm, rfl⟩
              case round =>
                obtain ⟨q, hq, rfl, rfl, rfl⟩ := hrel
                by_cases hlt : q < 3
                · obtain ⟨b0, b1⟩ := HB.out q hq
                  have HX := Lib.hid (HG.out q)
                  obtain ⟨d0, d1⟩ := tenD_bd (HG.out q)
                  have HN1 := HN.out q
                  have HY := Lib.hid (show (pow10 (g q).1 10).1 = tenY (g q).1 ∧ (pow10 (g q).1 10).2 = tenD (g q).1 from ⟨rfl, rfl⟩)
                  generalize tenY (g q).1 = Y at *
                  generalize tenD (g q).1 = D at *
                  have HN1 := Lib.hid HN1
                  generalize hx : (g q).1 = x at *
                  generalize hr : (g q).2 = r at *
                  clear hx hr
                  go_wp2
                  go_loop [9, 10, 11] (fun a b c => ∃ (t : Nat), t ≤ 10 ∧ a = .int .i64 (pow10 x t).1 ∧ b = .int .i64 (pow10 x t).2 ∧ c = .int .i64 t) (fun _ _ c => 10 - (intOf c).toNat)
                  case atStart => exact ⟨0, by omega, rfl, rfl, rfl⟩
                  case round =>
                    obtain ⟨t, ht, rfl, rfl, rfl⟩ := hrel
                    by_cases htt : t < 10
                    · obtain ⟨p0, p1, p2, p3, p4⟩ := prod_bd HX.out (pow_sig HX.out t)
                      obtain ⟨f0, f1⟩ := pow_nn x t
                      have HS := Lib.hid (show (pow10 x (t + 1)).1 = upY x (pow10 x t).1 ∧ (pow10 x (t + 1)).2 = upD x (pow10 x t).1 (pow10 x t).2 from ⟨rfl, rfl⟩)
                      generalize (pow10 x t).1 = y at *
                      generalize (pow10 x t).2 = d at *
                      by_cases hc : 1000000000 ≤ y * x / 100000000
                      · have HU := Lib.hid (upY_yes hc d)
                        have ew := IntWalk.i64_in (y * x) ⟨by omega, by omega⟩
                        obtain ⟨p, ep⟩ : ∃ p, p = y * x := ⟨_, rfl⟩
                        rw [← ep] at p0 p1 p2 p3 p4 hc HU
                        have ew : IntKind.i64.wrap (y * x) = p := by rw [ew, ep]
                        have EP := Lib.hid ep
                        clear ep
                        go_wp2
                        go_round
                        case rel => exact ⟨t + 1, by omega, ret_v (by rw [HS.out.1, HU.out.1, EP.out]), ret_v (by rw [HS.out.2, HU.out.2]), by go_num⟩
                        case measure => simp [intOf]; omega
                      · have HU := Lib.hid (upY_no hc d)
                        have ew := IntWalk.i64_in (y * x) ⟨by omega, by omega⟩
                        obtain ⟨p, ep⟩ : ∃ p, p = y * x := ⟨_, rfl⟩
                        rw [← ep] at p0 p1 p2 p3 p4 hc HU
                        have ew : IntKind.i64.wrap (y * x) = p := by rw [ew, ep]
                        have EP := Lib.hid ep
                        clear ep
                        go_wp2
                        go_round
                        case rel => exact ⟨t + 1, by omega, ret_v (by rw [HS.out.1, HU.out.1, EP.out]), ret_v (by rw [HS.out.2, HU.out.2]), by go_num⟩
                        case measure => simp [intOf]; omega
                    · obtain rfl : t = 10 := by omega
                      have HY1 := HY.out
                      generalize (pow10 x 10).1 = y1 at *
                      generalize (pow10 x 10).2 = d1 at *
                      obtain ⟨rfl, rfl⟩ := HY1
                      go_wp2
                      go_round
                      case rel => exact ⟨q + 1, by omega, ret_v (by rw [HN1.out.2]), ret_v (by rw [HN1.out.1]), by go_num⟩
                      case measure => simp [intOf]; omega
                · obtain rfl : q = 3 := by omega
                  go_wp2
                  go_ret
                  exact ⟨ret_i HV.out, rfl⟩

set_option maxHeartbeats 1000000 in
theorem sseen_any (I V D : Int) (w : World) (i0 : 1 ≤ I) (i1 : I ≤ 100000001) (d0 : 1 ≤ D) (d1 : D ≤ 100001) (v0 : 1 ≤ V) (v1 : V ≤ 100001) :
    Calls Try.prog 57 #[.int .i64 I, .int .i64 V, .int .i64 D] w fun e w' => e = .returned (.bool (seenB I V D)) ∧ Below w.heap.size w w' := by
  have HI := Lib.hid (fun n => quiet_eqs (w := w) (n := n) (slog_any I (w.drewN n) i0 (by omega)))
  have HD := Lib.hid (fun n => quiet_eqs (w := w) (n := n) (slog_any D (w.drewN n) d0 (by omega)))
  obtain ⟨a0, a1⟩ := logV_bd i0 (show I ≤ 1000000000000 by omega)
  obtain ⟨b0, b1⟩ := logV_bd d0 (show D ≤ 1000000000000 by omega)
  obtain ⟨q0, q1⟩ := quot_bd d0 d1 v0
  have HV := Lib.hid (show seenB I V D = decide (2 * logV D ≤ logV I + 6699 - 1301 * D / V) from rfl)
  have vn : (V == 0) = false := by simp; omega
  generalize logV I = a at *
  generalize logV D = b at *
  generalize seenB I V D = s at *
  go_enter Try.func57, Try.ntmps57
  go_wp2
  go_quiet ((go_at_call 52; first | (with_reducible exact HI.out _) | (with_reducible exact HD.out _)))
  go_wp2
  go_ret
  exact ⟨retB HV.out.symm, ⟨rfl, rfl, rfl, Nat.le_refl _, fun _ _ => rfl⟩⟩
end Go.Proofs.Ytagebpmciimcgaa
