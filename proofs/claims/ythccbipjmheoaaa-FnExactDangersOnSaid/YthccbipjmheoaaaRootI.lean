/- The program's root. -/
import Derived.Test.YthccbipjmheoaaaDiv
import Derived.LoopTactic
import Derived.Test.YthccbipjmheoaaaShelf
import Derived.Outline
import Derived.Laws.BitsAllLaws
import Derived.Lib.ItoaNum
namespace Go.Proofs.Ythccbipjmheoaaa
open Go.ChangeShapes Go.WideShapes Go.ChangeAt Go.RowKit Pm

def RootRet (n : Int) (w : World) (e : Ending) (w' : World) : Prop := ∃ r, Root n r ∧ e = .returned (.int .i64 r) ∧ w = w'

theorem wrap_sq (m : Int) (h0 : 0 ≤ m) (h : m ≤ 3037000499) : wrap64 (m * m) = m * m := by
  obtain ⟨a, b⟩ := sq_le h0 h
  exact IntWalk.wrap64_in _ ⟨by omega, by omega⟩

theorem start_bit (L : Nat) (h : L ≤ 64) : ∃ j : Nat, wrap64 ((wrap64 ((L : Int) - 1)).tdiv 2) = (j : Int) - 1 ∧ j ≤ 32 ∧ L ≤ 2 * j := by
  by_cases h0 : L = 0
  · subst h0
    refine ⟨1, ?_, by omega, by omega⟩
    rw [show ((0 : Nat) : Int) - 1 = -1 from rfl, IntWalk.wrap64_in (-1) ⟨by omega, by omega⟩, show Int.tdiv (-1) 2 = 0 by decide, IntWalk.wrap64_in 0 ⟨by omega, by omega⟩]
    rfl
  · refine ⟨(L + 1) / 2, ?_, by omega, by omega⟩
    rw [IntWalk.wrap64_in ((L : Int) - 1) ⟨by omega, by omega⟩, Int.tdiv_eq_ediv_of_nonneg (by omega), IntWalk.wrap64_in _ ⟨by omega, by omega⟩]
    omega

theorem nat_room (k r q : Nat) (k1 : k ≤ 32) (h : r = 2 ^ k * q) (hr : r < 4294967296) : r + 2 ^ k ≤ 4294967296 := by
  have h2 : 2 ^ k * 2 ^ (32 - k) = 4294967296 := by rw [← Nat.pow_add, show k + (32 - k) = 32 by omega]
  rw [← h2, h] at hr
  have hq : q < 2 ^ (32 - k) := Nat.lt_of_mul_lt_mul_left hr
  calc r + 2 ^ k = 2 ^ k * (q + 1) := by rw [h, Nat.mul_add, Nat.mul_one]
    _ ≤ 2 ^ k * 2 ^ (32 - k) := Nat.mul_le_mul_left _ hq
    _ = 4294967296 := h2

theorem two_pow_half (k : Nat) (hk : 1 ≤ k) : 2 ^ k = 2 ^ (k - 1) + 2 ^ (k - 1) := by
  obtain ⟨m, rfl⟩ : ∃ m, k = m + 1 := ⟨k - 1, by omega⟩
  rw [Nat.pow_succ, Nat.add_sub_cancel]; omega

theorem or_bit (k : Nat) (r : Int) (hk : 1 ≤ k) (k1 : k ≤ 32) (r0 : 0 ≤ r) (r1 : r ≤ 4294967295) (hq : ∃ q : Nat, r = ((2 ^ k * q : Nat) : Int)) :
    bits BinOp.or IntKind.u64 r (IntKind.u64.wrap ((2 : Int) ^ (k - 1))) = r + (2 : Int) ^ (k - 1) ∧ r + (2 : Int) ^ (k - 1) ≤ 4294967295 ∧ 1 ≤ (2 : Int) ^ (k - 1) := by
  obtain ⟨q, hq⟩ := hq
  have hh := two_pow_half k hk
  have hp : 0 < 2 ^ (k - 1) := Nat.pow_pos (by omega)
  have hroom := nat_room k r.toNat q k1 (by omega) (by omega)
  have hc : ((2 : Int) ^ (k - 1)) = ((2 ^ (k - 1) : Nat) : Int) := by simp
  rw [hc]
  generalize hb : 2 ^ (k - 1) = b at *
  have hw : IntKind.u64.wrap (b : Int) = (b : Int) := IntWalk.u64_in _ ⟨by omega, by omega⟩
  rw [hw, u64_or _ _ r0 (by omega) (by omega) (by omega)]
  refine ⟨?_, by omega, by omega⟩
  have e1 : r.toNat = 2 ^ k * q := by omega
  rw [e1, Int.toNat_natCast, ← Nat.two_pow_add_eq_or_of_lt (by omega)]
  omega

theorem u64_sq (t : Int) (t0 : 0 ≤ t) (t1 : t ≤ 4294967295) : IntKind.u64.wrap (t * t) = t * t := by
  obtain ⟨a, b⟩ := sq_le t0 t1
  exact IntWalk.u64_in _ ⟨by omega, by omega⟩

theorem root_walk (n : Int) (w : World) (h0 : 0 ≤ n) (hn : n ≤ 9223372036854775807) (L : Nat) (hL : Lib.bitLen n.toNat = L) (j : Nat) (hj : wrap64 ((wrap64 ((L : Int) - 1)).tdiv 2) = (j : Int) - 1) (hj2 : j ≤ 32) (hnj : n < (2 : Int) ^ j * (2 : Int) ^ j) :
    Calls Try.prog 119 #[.int .i64 n] w (RootRet n w) := by
  have L0 := Try.bits_Len64 n w h0 (by omega)
  rw [hL] at L0
  have L1 := Lib.hid L0
  have HJ := Lib.hid hj
  have HN := Lib.hid hnj
  clear L0 hL hnj
  go_enter Try.func119, Try.ntmps119
  go_wp2_with (go_at_call 126; refine L1.out.mono ?_; rintro e w' ⟨rfl, rfl⟩)
  go_loop [4, 5] (fun a b => ∃ (k : Nat) (r : Int), a = .int .u64 r ∧ b = .int .i64 ((k : Int) - 1) ∧ k ≤ 32 ∧ 0 ≤ r ∧ r ≤ 4294967295 ∧ (∃ q : Nat, r = ((2 ^ k * q : Nat) : Int)) ∧ r * r ≤ n ∧ n < (r + (2 : Int) ^ k) * (r + (2 : Int) ^ k)) (fun _ b => (intOf b + 1).toNat)
  case atStart => exact ⟨j, 0, rfl, ret_v (by first | rfl | exact HJ.out), hj2, by omega, by omega, ⟨0, by simp⟩, by simpa using h0, by simpa using HN.out⟩
  case round =>
    obtain ⟨k, r, rfl, rfl, k1, r0, r1, hq, hr, hn2⟩ := hrel
    have HQ := Lib.hid hq
    have HR := Lib.hid hr
    have HN2 := Lib.hid hn2
    clear hq hr hn2 hj
    by_cases hk : 1 ≤ k
    · obtain ⟨t1, t2, t3⟩ := or_bit k r hk k1 r0 r1 HQ.out
      obtain ⟨t, ht⟩ : ∃ t, r + (2 : Int) ^ (k - 1) = t := ⟨_, rfl⟩
      rw [ht] at t1 t2
      have hw := u64_sq t (by omega) t2
      have tr : r < t := by omega
      have HT := Lib.hid ht
      clear ht t3
      have hk1 : 1 ≤ (k : Int) := by omega
      by_cases hc : t * t ≤ n
      · go_wp2
        refine ⟨⟨k - 1, t, rfl, ret_v (by omega), by omega, by omega, by omega, ?_, hc, ?_⟩, by simp only [intOf]; omega⟩
        · obtain ⟨q, hq⟩ := HQ.out
          refine ⟨2 * q + 1, ?_⟩
          have hh := two_pow_half k hk
          have h1 := HT.out
          have hc : ((2 : Int) ^ (k - 1)) = ((2 ^ (k - 1) : Nat) : Int) := by simp
          rw [hc] at h1
          rw [hh] at hq
          rw [← h1, hq, Nat.mul_add, Nat.mul_one, show 2 ^ (k - 1) * (2 * q) = (2 ^ (k - 1) + 2 ^ (k - 1)) * q by rw [← Nat.mul_two, Nat.mul_assoc]]
          omega
        · have h1 := HT.out
          have h2 := HN2.out
          have hh : (2 : Int) ^ k = (2 : Int) ^ (k - 1) + (2 : Int) ^ (k - 1) := by
            have := two_pow_half k hk
            have h3 : ((2 ^ k : Nat) : Int) = ((2 ^ (k - 1) + 2 ^ (k - 1) : Nat) : Int) := by rw [← this]
            simpa using h3
          rw [hh, ← Int.add_assoc, h1] at h2
          exact h2
      · go_wp2
        refine ⟨⟨k - 1, r, rfl, ret_v (by omega), by omega, by omega, by omega, ?_, HR.out, ?_⟩, by simp only [intOf]; omega⟩
        · obtain ⟨q, hq⟩ := HQ.out
          refine ⟨2 * q, ?_⟩
          have hh := two_pow_half k hk
          rw [hq, hh, show 2 ^ (k - 1) * (2 * q) = (2 ^ (k - 1) + 2 ^ (k - 1)) * q by rw [← Nat.mul_two, Nat.mul_assoc]]
        · rw [HT.out]; omega
    · obtain rfl : k = 0 := by omega
      go_wp2
      go_ret
      have r3 : r ≤ 3037000499 := by
        have h1 := HR.out
        by_cases h : r ≤ 3037000499
        · exact h
        · have : (3037000500 : Int) * 3037000500 ≤ r * r := Int.mul_le_mul (by omega) (by omega) (by omega) (by omega)
          omega
      refine ⟨r, ⟨r0, r3, fun hneg => by omega, fun _ => ⟨HR.out, by have := HN2.out; simpa using this⟩⟩, ret_i (by first | rfl | exact IntWalk.wrap64_in _ ⟨by omega, by omega⟩), rfl⟩

theorem bits_pow (n : Int) (h0 : 0 ≤ n) (hn : n ≤ 9223372036854775807) (j : Nat) (h : Lib.bitLen n.toNat ≤ 2 * j) : n < (2 : Int) ^ j * (2 : Int) ^ j := by
  have h1 : n.toNat < 2 ^ Lib.bitLen n.toNat := by
    by_cases hz : n.toNat = 0
    · rw [hz]; exact Nat.pow_pos (by omega)
    · exact (Lib.bitLenAux_bounds 64 n.toNat (by omega) hz).2.2
  have h2 : 2 ^ Lib.bitLen n.toNat ≤ 2 ^ (2 * j) := Nat.pow_le_pow_right (by omega) h
  have h3 : 2 ^ (2 * j) = 2 ^ j * 2 ^ j := by rw [Nat.two_mul, Nat.pow_add]
  have h4 : (2 : Int) ^ j * (2 : Int) ^ j = ((2 ^ j * 2 ^ j : Nat) : Int) := by simp
  rw [h4, ← h3]
  omega

theorem rootof_any (n : Int) (w : World) (hn : n ≤ 9223372036854775807) :
    Calls Try.prog 119 #[.int .i64 n] w (RootRet n w) := by
  by_cases h0 : n < 0
  · go_enter Try.func119, Try.ntmps119
    go_wp2
    go_ret
    exact ⟨0, ⟨by omega, by omega, fun _ => rfl, fun h => by omega⟩, rfl, rfl⟩
  · obtain ⟨j, hj, hj2, hj3⟩ := start_bit (Lib.bitLen n.toNat) (Lib.bitLen_le _ 64 (by omega) (by omega))
    exact root_walk n w (by omega) hn _ rfl j hj hj2 (bits_pow n (by omega) hn j hj3)
end Go.Proofs.Ythccbipjmheoaaa
