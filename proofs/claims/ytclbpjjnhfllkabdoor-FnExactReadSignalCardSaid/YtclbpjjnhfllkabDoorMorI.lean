/- The signs of a text that is a letter: MorseOf. -/
import Derived.Test.YtclbpjjnhfllkabDoorMor
namespace Go.Proofs.YtclbpjjnhfllkabDoor
open Go.ChangeShapes Go.WideShapes Go.ChangeAt Go.RowKit Pm

theorem capN_at (s : ByteArray) (h : s.size = 1) : capN s = if 65 ≤ (s[0]'(by omega)).toNat ∧ (s[0]'(by omega)).toNat ≤ 90 then some ((s[0]'(by omega)).toNat - 65) else none := by
  obtain ⟨c, rfl⟩ := one_byteM s h
  exact capN_one c

theorem signs_any (s : ByteArray) (w : World) (hT : SignsAt w) :
    Calls Tryd.prog 40 #[.string s] w fun e w' => e = .returned (.string (signsV s)) ∧ Below w.heap.size w w' := by
  by_cases h : s.size = 1
  · have hca := capN_at s h
    obtain ⟨n, hn⟩ : ∃ n, (s[0]'(by omega)).toNat = n := ⟨_, rfl⟩
    have hn1 : n < 256 := by rw [← hn]; exact UInt8.toNat_lt _
    rw [hn] at hca
    by_cases h1 : 65 ≤ n ∧ n ≤ 90
    · obtain ⟨r, rfl⟩ : ∃ r, n = 65 + r := ⟨n - 65, by omega⟩
      have H1 := ints_one w .u8 (65 + (r : Int)) 5
      have hin : inB 65 90 [65 + (r : Int)] = true := by simp [inB]; omega
      have HV := Lib.hid (show signsV s = morseS r by unfold signsV; rw [hca, if_pos h1, Nat.add_sub_cancel_left])
      have hr1 : (r : Int) < 26 := by omega
      have HT := Lib.hid (hT r (by omega))
      clear hT hca h1 hn1
      go_enter Tryd.func40, Tryd.ntmps40
      go_wp2_with (go_at_call 69; refine (within_byte _ _ _ _ _ H1).mono ?_; rintro e w1 ⟨rfl, hw⟩; refine Hid.out ?_)
      refine Lib.hid ?_
      have hb : Below w.heap.size w w1 := by rw [← hw]; exact (Below.refl _ _).alloc (Nat.le_refl _) _
      have hcell := cell_below HT.out hb
      have HB := Lib.hid hb
      clear hw hb H1
      go_wp2
      go_ret
      exact ⟨retS HV.out.symm, HB.out⟩
    · have H1 := ints_one w .u8 (n : Int) 5
      have hin : inB 65 90 [(n : Int)] = false := by simp [inB]; omega
      have HV := Lib.hid (show signsV s = ⟨#[]⟩ by unfold signsV; rw [hca, if_neg h1])
      clear hT h1 hca
      go_enter Tryd.func40, Tryd.ntmps40
      go_wp2_with (go_at_call 69; refine (within_byte _ _ _ _ _ H1).mono ?_; rintro e w1 ⟨rfl, hw⟩)
      go_ret
      exact ⟨retS HV.out.symm, by rw [← hw]; exact (Below.refl _ _).alloc (Nat.le_refl _) _⟩
  · have HV := Lib.hid (show signsV s = ⟨#[]⟩ by unfold signsV; rw [capN_long h])
    have h1 : ((s.size : Int) != 1) = true := by rw [bne_iff_ne]; omega
    clear h hT
    go_enter Tryd.func40, Tryd.ntmps40
    go_wp2
    go_ret
    exact ⟨retS HV.out.symm, Below.refl _ _⟩

theorem morse_ne {r : Nat} (h : r < 26) : (morseS r).toList.isEmpty = false := by
  rw [morseS_list]
  have := (morse_facts r h).1
  cases e : morseB r
  · rw [e] at this; simp at this
  · rfl
/-- The signs of a text, and a code. -/
def morC (s : ByteArray) : Int := if (capN s).isSome then 0 else 1
theorem retSI {a b : ByteArray} {c d : Int} (h : a = b) (k : c = d) : Ending.returned (.tuple #[.string a, .int .i64 c]) = .returned (.tuple #[.string b, .int .i64 d]) := by rw [h, k]
theorem morseof_any (s : ByteArray) (w : World) (hT : SignsAt w) :
    Calls Tryd.prog 18 #[.string s] w fun e w' => e = .returned (.tuple #[.string (signsV s), .int .i64 (morC s)]) ∧ Below w.heap.size w w' := by
  have HS := Lib.hid (signs_any s w hT)
  clear hT
  cases hc : capN s with
  | none =>
    have HV := Lib.hid (show signsV s = ⟨#[]⟩ by unfold signsV; rw [hc])
    have HC := Lib.hid (show morC s = 1 by unfold morC; rw [hc]; rfl)
    rw [HV.out] at HS
    clear hc
    go_enter Tryd.func18, Tryd.ntmps18
    go_wp2_with (go_at_call 40; refine HS.out.mono ?_; rintro e w1 ⟨rfl, hb⟩; have HB := Lib.hid hb; clear hb)
    go_ret2
    exact ⟨retSI HV.out.symm HC.out.symm, HB.out⟩
  | some r =>
    obtain ⟨hs, hr⟩ := capN_some hc
    have HV := Lib.hid (show signsV s = morseS r by unfold signsV; rw [hc])
    have HC := Lib.hid (show morC s = 0 by unfold morC; rw [hc]; rfl)
    have hne := morse_ne hr
    rw [HV.out] at HS
    obtain ⟨u, hu⟩ : ∃ u, u = morseS r := ⟨_, rfl⟩
    rw [← hu] at HS HV hne
    clear hc hs hu
    go_enter Tryd.func18, Tryd.ntmps18
    go_wp2_with (go_at_call 40; refine HS.out.mono ?_; rintro e w1 ⟨rfl, hb⟩; have HB := Lib.hid hb; clear hb)
    go_ret2
    exact ⟨retSI HV.out.symm HC.out.symm, HB.out⟩
end Go.Proofs.YtclbpjjnhfllkabDoor
