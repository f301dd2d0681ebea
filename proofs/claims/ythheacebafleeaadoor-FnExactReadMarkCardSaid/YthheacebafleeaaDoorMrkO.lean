/- The kind with a name: the model's. -/
import Derived.Test.YthheacebafleeaaDoorMrkN
import Derived.Test.YthheacebafleeaaDoorMrkS
import Derived.Test.YthheacebafleeaaDoorMrkP
namespace Go.Proofs.YthheacebafleeaaDoor
open Go.ChangeShapes Go.WideShapes Go.ChangeAt Go.RowKit Pm

set_option maxRecDepth 100000 in
theorem slnames_any (w : World) :
    Calls Tryd.prog 34 #[] w fun e w' => e = .returned (.slice (some ⟨w.heap.size, 0, none⟩) 10 10) ∧ (∀ r : Nat, r < 10 → w'.cell? ⟨w.heap.size, r, none⟩ = some (.string (mkF r 0))) ∧ Below w.heap.size w w' := by
  go_enter Tryd.func34, Tryd.ntmps34
  go_wp2
  go_ret
  refine ⟨rfl, ?_, by go_grown⟩
  intro r hr
  have : r = 0 ∨ r = 1 ∨ r = 2 ∨ r = 3 ∨ r = 4 ∨ r = 5 ∨ r = 6 ∨ r = 7 ∨ r = 8 ∨ r = 9 := by omega
  rcases this with rfl | rfl | rfl | rfl | rfl | rfl | rfl | rfl | rfl | rfl <;> simp <;> rfl
theorem nretI {a b : Int} (h : a = b) : Ending.returned (.int .i64 a) = .returned (.int .i64 b) := by rw [h]
set_option maxRecDepth 100000 in
set_option maxHeartbeats 1000000 in
theorem slnamed_any (s : ByteArray) (v : Int) (w : World) (hv : NamedIs s v) :
    Calls Tryd.prog 36 #[.string s] w fun e w' => e = .returned (.int .i64 v) ∧ Below w.heap.size w w' := by
  have HN := Lib.hid (slnames_any w)
  have HV := Lib.hid hv
  clear hv
  go_enter Tryd.func36, Tryd.ntmps36
  go_wp2_with (go_at_call 34; refine HN.out.mono ?_; rintro e w1 ⟨rfl, hst, hb⟩; refine Hid.out ?_)
  refine Lib.hid ?_
  have HST := Lib.hid hst
  have HB := Lib.hid hb
  clear hst hb HN
  go_wp2_with (fail)
  go_loopw [4] (fun i wr => ∃ j : Nat, j ≤ 10 ∧ i = .int .i64 j ∧ (∀ r : Nat, r < j → mkF r 0 ≠ s) ∧ wr = w1) (fun i _ => 10 - (intOf i).toNat)
  case atStart => exact ⟨0, Nat.zero_le _, rfl, fun r hr => absurd hr (Nat.not_lt_zero r), rfl⟩
  case round =>
    obtain ⟨j, hj, rfl, hno, rfl⟩ := hrel
    have HNO := Lib.hid hno
    clear hno
    by_cases hlt : j < 10
    · have hj10 : (j : Int) < 10 := by omega
      have hq := HST.out j hlt
      have HAT := Lib.hid (show mkF j 0 = s → v = (j : Int) from fun e => by
        rcases HV.out with ⟨_, h⟩ | ⟨r, hr, h1, h2⟩
        · exact absurd e (h j hlt)
        · rw [h1, name_inj hlt hr (e.trans h2.symm)])
      have HD := Lib.hid (bytes_beq (mkF j 0) s)
      obtain ⟨q, hqe⟩ : ∃ q, q = mkF j 0 := ⟨_, rfl⟩
      have HQ := Lib.hid hqe
      rw [← hqe] at hq HAT HD
      clear hqe hj
      by_cases he : q = s
      · have hqs : (q.toList == s.toList) = true := by rw [HD.out]; exact decide_eq_true he
        have HR := Lib.hid (HAT.out he)
        clear he
        go_wp2
        go_ret
        exact ⟨nretI HR.out.symm, HB.out⟩
      · have hqs : (q.toList == s.toList) = false := by rw [HD.out]; exact decide_eq_false he
        have HE := Lib.hid he
        clear he
        go_wp2
        go_roundw
        case rel =>
          refine ⟨j + 1, by omega, by go_num, ?_, by first | rfl | trivial⟩
          intro r hr
          rcases Nat.lt_or_ge r j with h | h
          · exact HNO.out r h
          · obtain rfl : r = j := by omega
            rw [← HQ.out]; exact HE.out
        case measure => simp [intOf]; omega
    · have hj10 : ¬ (j : Int) < 10 := by omega
      have HR := Lib.hid (show v = -1 by
        rcases HV.out with ⟨h, _⟩ | ⟨r, hr, _, h2⟩
        · exact h
        · exact absurd h2 (HNO.out r (by omega)))
      clear hj
      go_wp2
      go_ret
      exact ⟨nretI HR.out.symm, HB.out⟩
set_option maxRecDepth 100000 in
theorem smarknamed_any (s : ByteArray) (v : Int) (w : World) (hv : NamedIs s v) :
    Calls Tryd.prog 13 #[.string s] w fun e w' => e = .returned (.tuple #[.int .i64 (nmA v), .bool (nmB v)]) ∧ Below w.heap.size w w' := by
  have H := Lib.hid (fun w => slnamed_any s v w hv)
  clear hv
  by_cases h0 : v < 0
  · have h1 : nmA v = 0 := by unfold nmA; rw [if_pos h0]
    have h2 : nmB v = false := by unfold nmB; rw [decide_eq_false_iff_not]; omega
    rw [h1, h2]
    clear h1 h2
    go_enter Tryd.func13, Tryd.ntmps13
    go_wp2_with (go_at_call 36; refine (H.out _).mono ?_; rintro e w1 ⟨rfl, hb⟩; have AC := Lib.hid hb; clear hb)
    go_ret2
    exact ⟨rfl, AC.out⟩
  · have h1 : nmA v = v := by unfold nmA; rw [if_neg h0]
    have h2 : nmB v = true := by unfold nmB; rw [decide_eq_true_iff]; omega
    rw [h1, h2]
    clear h1 h2
    go_enter Tryd.func13, Tryd.ntmps13
    go_wp2_with (go_at_call 36; refine (H.out _).mono ?_; rintro e w1 ⟨rfl, hb⟩; have AC := Lib.hid hb; clear hb)
    go_ret2
    exact ⟨rfl, AC.out⟩
end Go.Proofs.YthheacebafleeaaDoor
