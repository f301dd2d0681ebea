/- The contracts of least, greatest and within at int and at byte. -/
import Derived.Test.YthccbipjmheoaaaDoorWithin
namespace Go.Proofs.YthccbipjmheoaaaDoor
open Go.ChangeShapes Go.WideShapes Go.ChangeAt Go.RowKit Pm

theorem least_int (x : Int) (sv : Value) (zs : List Int) (w : World) (hs : IntsAre .i64 w sv zs) :
    Calls Tryd.prog 73 #[.int .i64 x, sv] w fun e w' => e = .returned (.int .i64 (leastOf x zs)) ∧ w = w' := by
  rcases hs with ⟨rfl, rfl⟩ | ⟨b, off, cap, rfl, hm, hc⟩
  · go_enter Tryd.func73, Tryd.ntmps73
    go_wp2
    go_rounds 1
    go_ret
    exact ⟨rfl, rfl⟩
  · have HC := Lib.hid hc; clear hc
    go_enter Tryd.func73, Tryd.ntmps73
    go_wp2
    go_loop [0, 9] (fun f i => ∃ k : Nat, k ≤ zs.length ∧ i = .int .i64 k ∧ f = .int .i64 (leastOf x (zs.take k))) (fun _ i => zs.length - (intOf i).toNat)
    case atStart => exact ⟨0, Nat.zero_le _, rfl, rfl⟩
    case round =>
      obtain ⟨k, hk, rfl, rfl⟩ := hrel
      by_cases hlt : k < zs.length
      · have hcell := HC.out k hlt
        have hsn := leastOf_snoc x (zs.take k) (zs.getD k 0)
        rw [← take_succ_getD zs k hlt] at hsn
        have HS := Lib.hid hsn; clear hsn
        generalize hz : zs.getD k 0 = z at hcell HS
        clear hz
        by_cases hz : z < leastOf x (zs.take k)
        · have H2 : Hid (leastOf x (zs.take (k + 1)) = z) := by rw [HS.out, if_pos hz]; exact rfl
          clear HS
          go_wp2
          go_round
          case rel => exact ⟨k + 1, by omega, by go_num, ret_v H2.out.symm⟩
          case measure => simp [intOf]; omega
        · have H2 : Hid (leastOf x (zs.take (k + 1)) = leastOf x (zs.take k)) := by rw [HS.out, if_neg hz]; exact rfl
          clear HS
          go_wp2
          go_round
          case rel => exact ⟨k + 1, by omega, by go_num, ret_v H2.out.symm⟩
          case measure => simp [intOf]; omega
      · go_wp2
        go_ret
        exact ⟨ret_i (by rw [List.take_of_length_le (by omega)]), rfl⟩
theorem greatest_int (x : Int) (sv : Value) (zs : List Int) (w : World) (hs : IntsAre .i64 w sv zs) :
    Calls Tryd.prog 74 #[.int .i64 x, sv] w fun e w' => e = .returned (.int .i64 (greatestOf x zs)) ∧ w = w' := by
  rcases hs with ⟨rfl, rfl⟩ | ⟨b, off, cap, rfl, hm, hc⟩
  · go_enter Tryd.func74, Tryd.ntmps74
    go_wp2
    go_rounds 1
    go_ret
    exact ⟨rfl, rfl⟩
  · have HC := Lib.hid hc; clear hc
    go_enter Tryd.func74, Tryd.ntmps74
    go_wp2
    go_loop [0, 9] (fun f i => ∃ k : Nat, k ≤ zs.length ∧ i = .int .i64 k ∧ f = .int .i64 (greatestOf x (zs.take k))) (fun _ i => zs.length - (intOf i).toNat)
    case atStart => exact ⟨0, Nat.zero_le _, rfl, rfl⟩
    case round =>
      obtain ⟨k, hk, rfl, rfl⟩ := hrel
      by_cases hlt : k < zs.length
      · have hcell := HC.out k hlt
        have hsn := greatestOf_snoc x (zs.take k) (zs.getD k 0)
        rw [← take_succ_getD zs k hlt] at hsn
        have HS := Lib.hid hsn; clear hsn
        generalize hz : zs.getD k 0 = z at hcell HS
        clear hz
        by_cases hz : greatestOf x (zs.take k) < z
        · have H2 : Hid (greatestOf x (zs.take (k + 1)) = z) := by rw [HS.out, if_pos hz]; exact rfl
          clear HS
          go_wp2
          go_round
          case rel => exact ⟨k + 1, by omega, by go_num, ret_v H2.out.symm⟩
          case measure => simp [intOf]; omega
        · have H2 : Hid (greatestOf x (zs.take (k + 1)) = greatestOf x (zs.take k)) := by rw [HS.out, if_neg hz]; exact rfl
          clear HS
          go_wp2
          go_round
          case rel => exact ⟨k + 1, by omega, by go_num, ret_v H2.out.symm⟩
          case measure => simp [intOf]; omega
      · go_wp2
        go_ret
        exact ⟨ret_i (by rw [List.take_of_length_le (by omega)]), rfl⟩
theorem within_int (lo hi : Int) (sv : Value) (zs : List Int) (w : World) (hs : IntsAre .i64 w sv zs) :
    Calls Tryd.prog 59 #[.int .i64 lo, .int .i64 hi, sv] w fun e w' => e = .returned (.bool (inB lo hi zs)) ∧ w = w' := by
  by_cases h1 : leastOf lo zs = lo
  · by_cases h2 : greatestOf hi zs = hi
    · have hv := Lib.hid (show inB lo hi zs = true by rw [inB_eq, h1, h2]; simp)
      have b1 : (leastOf lo zs == lo) = true := by simp [h1]
      have b2 : (greatestOf hi zs == hi) = true := by simp [h2]
      clear h1 h2
      go_enter Tryd.func59, Tryd.ntmps59
      go_wp2_with (first | (go_at_call 73; refine (least_int _ _ _ _ hs).mono ?_; rintro e w' ⟨rfl, rfl⟩) | (go_at_call 74; refine (greatest_int _ _ _ _ hs).mono ?_; rintro e w' ⟨rfl, rfl⟩))
      go_ret
      exact ⟨by rw [hv.out]; rfl, rfl⟩
    · have hv := Lib.hid (show inB lo hi zs = false by rw [inB_eq]; simp [h2])
      have b1 : (leastOf lo zs == lo) = true := by simp [h1]
      have b2 : (greatestOf hi zs == hi) = false := by simp [h2]
      clear h1 h2
      go_enter Tryd.func59, Tryd.ntmps59
      go_wp2_with (first | (go_at_call 73; refine (least_int _ _ _ _ hs).mono ?_; rintro e w' ⟨rfl, rfl⟩) | (go_at_call 74; refine (greatest_int _ _ _ _ hs).mono ?_; rintro e w' ⟨rfl, rfl⟩))
      go_ret
      exact ⟨by rw [hv.out]; rfl, rfl⟩
  · have hv := Lib.hid (show inB lo hi zs = false by rw [inB_eq]; simp [h1])
    have b1 : (leastOf lo zs == lo) = false := by simp [h1]
    clear h1
    go_enter Tryd.func59, Tryd.ntmps59
    go_wp2_with (first | (go_at_call 73; refine (least_int _ _ _ _ hs).mono ?_; rintro e w' ⟨rfl, rfl⟩) | (go_at_call 74; refine (greatest_int _ _ _ _ hs).mono ?_; rintro e w' ⟨rfl, rfl⟩))
    go_ret
    exact ⟨by rw [hv.out]; rfl, rfl⟩

theorem least_byte (x : Int) (sv : Value) (zs : List Int) (w : World) (hs : IntsAre .u8 w sv zs) :
    Calls Tryd.prog 83 #[.int .u8 x, sv] w fun e w' => e = .returned (.int .u8 (leastOf x zs)) ∧ w = w' := by
  rcases hs with ⟨rfl, rfl⟩ | ⟨b, off, cap, rfl, hm, hc⟩
  · go_enter Tryd.func83, Tryd.ntmps83
    go_wp2
    go_rounds 1
    go_ret
    exact ⟨rfl, rfl⟩
  · have HC := Lib.hid hc; clear hc
    go_enter Tryd.func83, Tryd.ntmps83
    go_wp2
    go_loop [0, 9] (fun f i => ∃ k : Nat, k ≤ zs.length ∧ i = .int .i64 k ∧ f = .int .u8 (leastOf x (zs.take k))) (fun _ i => zs.length - (intOf i).toNat)
    case atStart => exact ⟨0, Nat.zero_le _, rfl, rfl⟩
    case round =>
      obtain ⟨k, hk, rfl, rfl⟩ := hrel
      by_cases hlt : k < zs.length
      · have hcell := HC.out k hlt
        have hsn := leastOf_snoc x (zs.take k) (zs.getD k 0)
        rw [← take_succ_getD zs k hlt] at hsn
        have HS := Lib.hid hsn; clear hsn
        generalize hz : zs.getD k 0 = z at hcell HS
        clear hz
        by_cases hz : z < leastOf x (zs.take k)
        · have H2 : Hid (leastOf x (zs.take (k + 1)) = z) := by rw [HS.out, if_pos hz]; exact rfl
          clear HS
          go_wp2
          go_round
          case rel => exact ⟨k + 1, by omega, by go_num, ret_v H2.out.symm⟩
          case measure => simp [intOf]; omega
        · have H2 : Hid (leastOf x (zs.take (k + 1)) = leastOf x (zs.take k)) := by rw [HS.out, if_neg hz]; exact rfl
          clear HS
          go_wp2
          go_round
          case rel => exact ⟨k + 1, by omega, by go_num, ret_v H2.out.symm⟩
          case measure => simp [intOf]; omega
      · go_wp2
        go_ret
        exact ⟨ret_i (by rw [List.take_of_length_le (by omega)]), rfl⟩
theorem greatest_byte (x : Int) (sv : Value) (zs : List Int) (w : World) (hs : IntsAre .u8 w sv zs) :
    Calls Tryd.prog 84 #[.int .u8 x, sv] w fun e w' => e = .returned (.int .u8 (greatestOf x zs)) ∧ w = w' := by
  rcases hs with ⟨rfl, rfl⟩ | ⟨b, off, cap, rfl, hm, hc⟩
  · go_enter Tryd.func84, Tryd.ntmps84
    go_wp2
    go_rounds 1
    go_ret
    exact ⟨rfl, rfl⟩
  · have HC := Lib.hid hc; clear hc
    go_enter Tryd.func84, Tryd.ntmps84
    go_wp2
    go_loop [0, 9] (fun f i => ∃ k : Nat, k ≤ zs.length ∧ i = .int .i64 k ∧ f = .int .u8 (greatestOf x (zs.take k))) (fun _ i => zs.length - (intOf i).toNat)
    case atStart => exact ⟨0, Nat.zero_le _, rfl, rfl⟩
    case round =>
      obtain ⟨k, hk, rfl, rfl⟩ := hrel
      by_cases hlt : k < zs.length
      · have hcell := HC.out k hlt
        have hsn := greatestOf_snoc x (zs.take k) (zs.getD k 0)
        rw [← take_succ_getD zs k hlt] at hsn
        have HS := Lib.hid hsn; clear hsn
        generalize hz : zs.getD k 0 = z at hcell HS
        clear hz
        by_cases hz : greatestOf x (zs.take k) < z
        · have H2 : Hid (greatestOf x (zs.take (k + 1)) = z) := by rw [HS.out, if_pos hz]; exact rfl
          clear HS
          go_wp2
          go_round
          case rel => exact ⟨k + 1, by omega, by go_num, ret_v H2.out.symm⟩
          case measure => simp [intOf]; omega
        · have H2 : Hid (greatestOf x (zs.take (k + 1)) = greatestOf x (zs.take k)) := by rw [HS.out, if_neg hz]; exact rfl
          clear HS
          go_wp2
          go_round
          case rel => exact ⟨k + 1, by omega, by go_num, ret_v H2.out.symm⟩
          case measure => simp [intOf]; omega
      · go_wp2
        go_ret
        exact ⟨ret_i (by rw [List.take_of_length_le (by omega)]), rfl⟩
theorem within_byte (lo hi : Int) (sv : Value) (zs : List Int) (w : World) (hs : IntsAre .u8 w sv zs) :
    Calls Tryd.prog 75 #[.int .u8 lo, .int .u8 hi, sv] w fun e w' => e = .returned (.bool (inB lo hi zs)) ∧ w = w' := by
  by_cases h1 : leastOf lo zs = lo
  · by_cases h2 : greatestOf hi zs = hi
    · have hv := Lib.hid (show inB lo hi zs = true by rw [inB_eq, h1, h2]; simp)
      have b1 : (leastOf lo zs == lo) = true := by simp [h1]
      have b2 : (greatestOf hi zs == hi) = true := by simp [h2]
      clear h1 h2
      go_enter Tryd.func75, Tryd.ntmps75
      go_wp2_with (first | (go_at_call 83; refine (least_byte _ _ _ _ hs).mono ?_; rintro e w' ⟨rfl, rfl⟩) | (go_at_call 84; refine (greatest_byte _ _ _ _ hs).mono ?_; rintro e w' ⟨rfl, rfl⟩))
      go_ret
      exact ⟨by rw [hv.out]; rfl, rfl⟩
    · have hv := Lib.hid (show inB lo hi zs = false by rw [inB_eq]; simp [h2])
      have b1 : (leastOf lo zs == lo) = true := by simp [h1]
      have b2 : (greatestOf hi zs == hi) = false := by simp [h2]
      clear h1 h2
      go_enter Tryd.func75, Tryd.ntmps75
      go_wp2_with (first | (go_at_call 83; refine (least_byte _ _ _ _ hs).mono ?_; rintro e w' ⟨rfl, rfl⟩) | (go_at_call 84; refine (greatest_byte _ _ _ _ hs).mono ?_; rintro e w' ⟨rfl, rfl⟩))
      go_ret
      exact ⟨by rw [hv.out]; rfl, rfl⟩
  · have hv := Lib.hid (show inB lo hi zs = false by rw [inB_eq]; simp [h1])
    have b1 : (leastOf lo zs == lo) = false := by simp [h1]
    clear h1
    go_enter Tryd.func75, Tryd.ntmps75
    go_wp2_with (first | (go_at_call 83; refine (least_byte _ _ _ _ hs).mono ?_; rintro e w' ⟨rfl, rfl⟩) | (go_at_call 84; refine (greatest_byte _ _ _ _ hs).mono ?_; rintro e w' ⟨rfl, rfl⟩))
    go_ret
    exact ⟨by rw [hv.out]; rfl, rfl⟩

end Go.Proofs.YthccbipjmheoaaaDoor
