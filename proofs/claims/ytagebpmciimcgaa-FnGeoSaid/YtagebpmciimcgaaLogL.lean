/- The program's logarithm and whether an intensity is enough. -/
import Derived.Test.YtagebpmciimcgaaLogI
import Derived.Deep.QuietTactic
import Derived.BigQuiet
namespace Go.Proofs.Ytagebpmciimcgaa
open Go.ChangeShapes Go.WideShapes Go.ChangeAt Go.RowKit Pm

set_option maxHeartbeats 1000000 in
theorem logof_any (n : Int) (w : World) (h1 : 1 ≤ n) (h2 : n ≤ 1000000000000) :
    Calls Try.prog 45 #[.int .i64 n] w fun e w' => e = .returned (.int .i64 (logV n)) ∧ w = w' := by
  have HS := Lib.hid (fun w => sigof_any n w h1 (by omega))
  have HG := Lib.hid (fun k => logG_sig h1 h2 k)
  have HB := Lib.hid (fun k (hk : k ≤ 3) => logG_bd h1 h2 hk)
  have H0 := Lib.hid (show (logG n 0).1 = sigX n ∧ (logG n 0).2 = (plcOf n : Int) from ⟨rfl, rfl⟩)
  have HV := Lib.hid (logG_three n)
  have HN := Lib.hid (show ∀ k, (logG n (k + 1)).1 = tenY (logG n k).1 ∧ (logG n (k + 1)).2 = 10 * (logG n k).2 + tenD (logG n k).1 from fun _ => ⟨rfl, rfl⟩)
  generalize logV n = v at *
  generalize sigX n = x at *
  generalize (plcOf n : Int) = r at *
  generalize logG n = g at *
  clear h1 h2
  go_enter Try.func45, Try.ntmps45
  go_wp2_with (go_at_call 63; refine (HS.out _).mono ?_; rintro e w1 ⟨rfl, rfl⟩)
  go_loop [3, 4, 12] (fun a b c => ∃ (k : Nat), k ≤ 3 ∧ a = .int .i64 (g k).1 ∧ b = .int .i64 (g k).2 ∧ c = .int .i64 k) (fun _ _ c => 3 - (intOf c).toNat)
  case atStart => exact ⟨0, by omega, ret_v H0.out.1.symm, ret_v H0.out.2.symm, rfl⟩
  case round =>
    obtain ⟨k, hk, rfl, rfl, rfl⟩ := hrel
    by_cases hlt : k < 3
    · obtain ⟨b0, b1⟩ := HB.out k hk
      have HT := fun w => tenth_any (g k).1 w (HG.out k)
      obtain ⟨d0, d1⟩ := tenD_bd (HG.out k)
      have HN1 := HN.out k
      generalize tenY (g k).1 = y at *
      generalize tenD (g k).1 = d at *
      have HT := Lib.hid HT
      have HN1 := Lib.hid HN1
      go_wp2_with (go_at_call 64; refine (HT.out _).mono ?_; rintro e w1 ⟨rfl, rfl⟩)
      go_round
      case rel => exact ⟨k + 1, by omega, ret_v (by rw [HN1.out.1]), ret_v (by rw [HN1.out.2]), by go_num⟩
      case measure => simp [intOf]; omega
    · obtain rfl : k = 3 := by omega
      go_wp2
      go_ret
      exact ⟨ret_i HV.out, rfl⟩

/-! ### Is it enough? -/
theorem quiet_eqs {P : Program} {f : FuncId} {args : Array Value} {w : World} {n : Nat} {v : Value}
    (h : Calls P f args (w.drewN n) fun e w' => e = .returned v ∧ w.drewN n = w') : Calls P f args (w.drewN n) fun e w'' => e = .returned v ∧ ∃ m, w'' = w.drewN m :=
  h.mono fun _ _ ⟨he, hm⟩ => ⟨he, n, hm.symm⟩

set_option maxHeartbeats 1000000 in
theorem enough_any (I D V : Int) (w : World) (i0 : 1 ≤ I) (i1 : I ≤ 100000001) (d0 : 1 ≤ D) (d1 : D ≤ 100001) (v0 : 1 ≤ V) (v1 : V ≤ 100001) :
    Calls Try.prog 43 #[.int .i64 I, .int .i64 D, .int .i64 V] w fun e w' => e = .returned (.bool (seenB I V D)) ∧ Below w.heap.size w w' := by
  have HI := Lib.hid (fun n => quiet_eqs (w := w) (n := n) (logof_any I (w.drewN n) i0 (by omega)))
  have HD := Lib.hid (fun n => quiet_eqs (w := w) (n := n) (logof_any D (w.drewN n) d0 (by omega)))
  obtain ⟨a0, a1⟩ := logV_bd i0 (show I ≤ 1000000000000 by omega)
  obtain ⟨b0, b1⟩ := logV_bd d0 (show D ≤ 1000000000000 by omega)
  obtain ⟨q0, q1⟩ := quot_bd d0 d1 v0
  have HV := Lib.hid (show seenB I V D = decide (2 * logV D ≤ logV I + 6699 - 1301 * D / V) from rfl)
  have vn : (V == 0) = false := by simp; omega
  generalize logV I = a at *
  generalize logV D = b at *
  generalize seenB I V D = s at *
  go_enter Try.func43, Try.ntmps43
  go_wp2
  go_quiet ((go_at_call 45; first | (with_reducible exact HI.out _) | (with_reducible exact HD.out _)))
  go_wp2
  go_ret
  exact ⟨retB HV.out.symm, ⟨rfl, rfl, rfl, Nat.le_refl _, fun _ _ => rfl⟩⟩
end Go.Proofs.Ytagebpmciimcgaa
