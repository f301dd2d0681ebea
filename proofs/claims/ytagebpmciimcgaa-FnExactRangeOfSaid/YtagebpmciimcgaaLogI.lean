/- The program's logarithm: significand, ten multiplications, three digits. -/
import Derived.Test.YtagebpmciimcgaaKit
import Derived.Test.YtagebpmciimcgaaLogM
import Derived.LoopTactic
namespace Go.Proofs.Ytagebpmciimcgaa
open Go.ChangeShapes Go.WideShapes Go.ChangeAt Go.RowKit Pm

/-- Two loops' state: a number on its way to its significand. -/
def Half (n c r : Int) : Prop := (∃ j : Nat, r + j = 8 ∧ c = n * (10 : Int) ^ j) ∨ (100000000 ≤ c ∧ ∃ k : Nat, r = 8 + k ∧ c = n / (10 : Int) ^ k)
theorem Half.part {n c r : Int} (h : Half n c r) : Part n c r := by
  rcases h with h | ⟨_, h⟩
  · exact .inl h
  · exact .inr h
theorem Half.next {n c r : Int} (h : Half n c r) (hc : c < 100000000) : Half n (c * 10) (r - 1) := by
  rcases h with ⟨j, hj, e⟩ | ⟨h, _⟩
  · exact .inl ⟨j + 1, by omega, by rw [e, Int.pow_succ, Int.mul_assoc]⟩
  · omega
theorem quo_next {n c : Int} {k : Nat} (h : c = n / (10 : Int) ^ k) : c / 10 = n / (10 : Int) ^ (k + 1) := by
  rw [h, Int.pow_succ, Int.ediv_ediv_of_nonneg (by have := p10 k; omega)]

set_option maxHeartbeats 1000000 in
theorem sigof_any (n : Int) (w : World) (h1 : 1 ≤ n) (h2 : n ≤ 1000000000000000000) :
    Calls Try.prog 63 #[.int .i64 n] w fun e w' => e = .returned (.tuple #[.int .i64 (sigX n), .int .i64 (plcOf n)]) ∧ w = w' := by
  go_enter Try.func63, Try.ntmps63
  go_wp2
  go_loop [0, 3] (fun a b => ∃ (k : Nat) (c : Int), a = .int .i64 c ∧ b = .int .i64 (8 + (k : Int)) ∧ 1 ≤ c ∧ c + k ≤ n ∧ Hid (c = n / (10 : Int) ^ k) ∧ Hid (k = 0 ∨ 100000000 ≤ c)) (fun a _ => (intOf a).toNat)
  case atStart => exact ⟨0, n, rfl, rfl, h1, by omega, Lib.hid (by simp), Lib.hid (.inl rfl)⟩
  case round =>
    obtain ⟨k, c, rfl, rfl, c1, c2, HQ, HK⟩ := hrel
    by_cases hc : 1000000000 ≤ c
    · go_wp2
      go_round
      case rel => exact ⟨k + 1, c / 10, rfl, ret_v (by omega), by omega, by omega, Lib.hid (quo_next HQ.out), Lib.hid (.inr (by omega))⟩
      case measure => simp only [intOf]; omega
    · have HH : Hid (Half n c (8 + (k : Int))) := Lib.hid (by
        rcases HK.out with e | e
        · subst e; exact .inl ⟨0, by omega, by have := HQ.out; simpa using this⟩
        · exact .inr ⟨e, k, rfl, HQ.out⟩)
      have c3 : c < 1000000000 := by omega
      have r0 : 9 ≤ 8 + (k : Int) + c := by omega
      have r1 : 8 + (k : Int) ≤ 1000000000000000008 := by omega
      obtain ⟨r, er⟩ : ∃ r, r = 8 + (k : Int) := ⟨_, rfl⟩
      rw [← er] at HH r0 r1 ⊢
      clear HQ HK hc er c2
      go_wp2
      go_loop [0, 3] (fun a b => ∃ (c r : Int), a = .int .i64 c ∧ b = .int .i64 r ∧ 1 ≤ c ∧ c < 1000000000 ∧ 9 ≤ r + c ∧ r ≤ 1000000000000000008 ∧ Hid (Half n c r)) (fun a _ => (1000000000 - intOf a).toNat)
      case atStart => exact ⟨c, r, rfl, rfl, c1, c3, r0, r1, HH⟩
      case round =>
        clear HH c1 c3 r0 r1
        obtain ⟨b, s, rfl, rfl, c1, c3, r0, r1, HH⟩ := hrel
        by_cases hc : b < 100000000
        · go_wp2
          go_round
          case rel => exact ⟨b * 10, s - 1, rfl, rfl, by omega, by omega, by omega, by omega, Lib.hid (HH.out.next hc)⟩
          case measure => simp only [intOf]; omega
        · obtain ⟨e1, e2⟩ := part_is h1 h2 ⟨by omega, c3⟩ HH.out.part
          have E := Lib.hid (And.intro e1 e2)
          clear e1 e2
          go_wp2
          go_ret2
          exact ⟨retII E.out.1 E.out.2, rfl⟩

theorem upY_no {x y : Int} (h : ¬ 1000000000 ≤ y * x / 100000000) (d : Int) : upY x y = y * x / 100000000 ∧ upD x y d = d := by unfold upY upD; rw [if_neg h, if_neg h]; exact ⟨rfl, rfl⟩
theorem upY_yes {x y : Int} (h : 1000000000 ≤ y * x / 100000000) (d : Int) : upY x y = y * x / 100000000 / 10 ∧ upD x y d = d + 1 := by unfold upY upD; rw [if_pos h, if_pos h]; exact ⟨rfl, rfl⟩

set_option maxHeartbeats 1000000 in
theorem tenth_any (x : Int) (w : World) (hx : Sig x) :
    Calls Try.prog 64 #[.int .i64 x] w fun e w' => e = .returned (.tuple #[.int .i64 (tenY x), .int .i64 (tenD x)]) ∧ w = w' := by
  have HX := Lib.hid hx
  clear hx
  go_enter Try.func64, Try.ntmps64
  go_wp2
  go_loop [2, 3, 4] (fun a b c => ∃ (k : Nat), k ≤ 10 ∧ a = .int .i64 (pow10 x k).1 ∧ b = .int .i64 (pow10 x k).2 ∧ c = .int .i64 k) (fun _ _ c => 10 - (intOf c).toNat)
  case atStart => exact ⟨0, by omega, rfl, rfl, rfl⟩
  case round =>
    obtain ⟨k, hk, rfl, rfl, rfl⟩ := hrel
    by_cases hlt : k < 10
    · obtain ⟨p0, p1, p2, p3, p4⟩ := prod_bd HX.out (pow_sig HX.out k)
      obtain ⟨d0, d1⟩ := pow_nn x k
      have HS := Lib.hid (show (pow10 x (k + 1)).1 = upY x (pow10 x k).1 ∧ (pow10 x (k + 1)).2 = upD x (pow10 x k).1 (pow10 x k).2 from ⟨rfl, rfl⟩)
      generalize (pow10 x k).1 = y at *
      generalize (pow10 x k).2 = d at *
      by_cases hc : 1000000000 ≤ y * x / 100000000
      · have HU := Lib.hid (upY_yes hc d)
        have ew := IntWalk.i64_in (y * x) ⟨by omega, by omega⟩
        obtain ⟨p, ep⟩ : ∃ p, p = y * x := ⟨_, rfl⟩
        rw [← ep] at p0 p1 p2 p3 p4 hc HU
        have ew : IntKind.i64.wrap (y * x) = p := by rw [ew, ep]
        have EP := Lib.hid ep
        clear ep
        go_wp2
        go_round
        case rel => exact ⟨k + 1, by omega, ret_v (by rw [HS.out.1, HU.out.1, EP.out]), ret_v (by rw [HS.out.2, HU.out.2]), by go_num⟩
        case measure => simp [intOf]; omega
      · have HU := Lib.hid (upY_no hc d)
        have ew := IntWalk.i64_in (y * x) ⟨by omega, by omega⟩
        obtain ⟨p, ep⟩ : ∃ p, p = y * x := ⟨_, rfl⟩
        rw [← ep] at p0 p1 p2 p3 p4 hc HU
        have ew : IntKind.i64.wrap (y * x) = p := by rw [ew, ep]
        have EP := Lib.hid ep
        clear ep
        go_wp2
        go_round
        case rel => exact ⟨k + 1, by omega, ret_v (by rw [HS.out.1, HU.out.1, EP.out]), ret_v (by rw [HS.out.2, HU.out.2]), by go_num⟩
        case measure => simp [intOf]; omega
    · obtain rfl : k = 10 := by omega
      go_wp2
      go_ret2
      exact ⟨rfl, rfl⟩
end Go.Proofs.Ytagebpmciimcgaa
