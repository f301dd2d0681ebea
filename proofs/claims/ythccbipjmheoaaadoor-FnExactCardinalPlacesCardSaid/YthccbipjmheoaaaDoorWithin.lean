/- The contracts of least, greatest and within at int64, over a slice of numbers that is nil or lies in memory. -/
import Derived.Test.YthccbipjmheoaaaDoorDiv
import Derived.LoopTactic
import Derived.Outline
namespace Go.Proofs.YthccbipjmheoaaaDoor
open Go.ChangeShapes Go.WideShapes Go.ChangeAt Go.RowKit Pm

/-- A slice that reads as the numbers zs: nil, or a row of cells. -/
def IntsAre (k : IntKind) (w : World) (sv : Value) (zs : List Int) : Prop :=
  (sv = .slice none 0 0 ∧ zs = []) ∨
  ∃ b off cap, sv = .slice (some ⟨b, off, none⟩) zs.length cap ∧ zs.length ≤ 9223372036854775807 ∧ ∀ i, i < zs.length → w.cell? ⟨b, off + i, none⟩ = some (.int k (zs.getD i 0))

theorem take_succ_getD (zs : List Int) (k : Nat) (h : k < zs.length) : zs.take (k + 1) = zs.take k ++ [zs.getD k 0] := by
  rw [List.take_succ_eq_append_getElem h]; simp [h]

theorem least_any (x : Int) (sv : Value) (zs : List Int) (w : World) (hs : IntsAre .i64 w sv zs) :
    Calls Tryd.prog 62 #[.int .i64 x, sv] w fun e w' => e = .returned (.int .i64 (leastOf x zs)) ∧ w = w' := by
  rcases hs with ⟨rfl, rfl⟩ | ⟨b, off, cap, rfl, hm, hc⟩
  · go_enter Tryd.func62, Tryd.ntmps62
    go_wp2
    go_rounds 1
    go_ret
    exact ⟨rfl, rfl⟩
  · have HC := Lib.hid hc; clear hc
    go_enter Tryd.func62, Tryd.ntmps62
    go_wp2
    go_loop [0, 9] (fun f i => ∃ k : Nat, k ≤ zs.length ∧ i = .int .i64 k ∧ f = .int .i64 (leastOf x (zs.take k))) (fun _ i => zs.length - (intOf i).toNat)
    case atStart => exact ⟨0, Nat.zero_le _, rfl, rfl⟩
    case round =>
      obtain ⟨k, hk, rfl, rfl⟩ := hrel
      by_cases hlt : k < zs.length
      · have hcell := HC.out k hlt
        have hsn := leastOf_snoc x (zs.take k) (zs.getD k 0)
        rw [← take_succ_getD zs k hlt] at hsn
        have HS := Lib.hid hsn; clear hsn
        generalize hz : zs.getD k 0 = z at hcell HS
        clear hz
        by_cases hz : z < leastOf x (zs.take k)
        · have H2 : Hid (leastOf x (zs.take (k + 1)) = z) := by rw [HS.out, if_pos hz]; exact rfl
          clear HS
          go_wp2
          go_round
          case rel => exact ⟨k + 1, by omega, by go_num, ret_v H2.out.symm⟩
          case measure => simp [intOf]; omega
        · have H2 : Hid (leastOf x (zs.take (k + 1)) = leastOf x (zs.take k)) := by rw [HS.out, if_neg hz]; exact rfl
          clear HS
          go_wp2
          go_round
          case rel => exact ⟨k + 1, by omega, by go_num, ret_v H2.out.symm⟩
          case measure => simp [intOf]; omega
      · go_wp2
        go_ret
        exact ⟨ret_i (by rw [List.take_of_length_le (by omega)]), rfl⟩
theorem greatest_any (x : Int) (sv : Value) (zs : List Int) (w : World) (hs : IntsAre .i64 w sv zs) :
    Calls Tryd.prog 63 #[.int .i64 x, sv] w fun e w' => e = .returned (.int .i64 (greatestOf x zs)) ∧ w = w' := by
  rcases hs with ⟨rfl, rfl⟩ | ⟨b, off, cap, rfl, hm, hc⟩
  · go_enter Tryd.func63, Tryd.ntmps63
    go_wp2
    go_rounds 1
    go_ret
    exact ⟨rfl, rfl⟩
  · have HC := Lib.hid hc; clear hc
    go_enter Tryd.func63, Tryd.ntmps63
    go_wp2
    go_loop [0, 9] (fun f i => ∃ k : Nat, k ≤ zs.length ∧ i = .int .i64 k ∧ f = .int .i64 (greatestOf x (zs.take k))) (fun _ i => zs.length - (intOf i).toNat)
    case atStart => exact ⟨0, Nat.zero_le _, rfl, rfl⟩
    case round =>
      obtain ⟨k, hk, rfl, rfl⟩ := hrel
      by_cases hlt : k < zs.length
      · have hcell := HC.out k hlt
        have hsn := greatestOf_snoc x (zs.take k) (zs.getD k 0)
        rw [← take_succ_getD zs k hlt] at hsn
        have HS := Lib.hid hsn; clear hsn
        generalize hz : zs.getD k 0 = z at hcell HS
        clear hz
        by_cases hz : greatestOf x (zs.take k) < z
        · have H2 : Hid (greatestOf x (zs.take (k + 1)) = z) := by rw [HS.out, if_pos hz]; exact rfl
          clear HS
          go_wp2
          go_round
          case rel => exact ⟨k + 1, by omega, by go_num, ret_v H2.out.symm⟩
          case measure => simp [intOf]; omega
        · have H2 : Hid (greatestOf x (zs.take (k + 1)) = greatestOf x (zs.take k)) := by rw [HS.out, if_neg hz]; exact rfl
          clear HS
          go_wp2
          go_round
          case rel => exact ⟨k + 1, by omega, by go_num, ret_v H2.out.symm⟩
          case measure => simp [intOf]; omega
      · go_wp2
        go_ret
        exact ⟨ret_i (by rw [List.take_of_length_le (by omega)]), rfl⟩
theorem within_any (lo hi : Int) (sv : Value) (zs : List Int) (w : World) (hs : IntsAre .i64 w sv zs) :
    Calls Tryd.prog 38 #[.int .i64 lo, .int .i64 hi, sv] w fun e w' => e = .returned (.bool (inB lo hi zs)) ∧ w = w' := by
  by_cases h1 : leastOf lo zs = lo
  · by_cases h2 : greatestOf hi zs = hi
    · have hv := Lib.hid (show inB lo hi zs = true by rw [inB_eq, h1, h2]; simp)
      have b1 : (leastOf lo zs == lo) = true := by simp [h1]
      have b2 : (greatestOf hi zs == hi) = true := by simp [h2]
      clear h1 h2
      go_enter Tryd.func38, Tryd.ntmps38
      go_wp2_with (first | (go_at_call 62; refine (least_any _ _ _ _ hs).mono ?_; rintro e w' ⟨rfl, rfl⟩) | (go_at_call 63; refine (greatest_any _ _ _ _ hs).mono ?_; rintro e w' ⟨rfl, rfl⟩))
      go_ret
      exact ⟨by rw [hv.out]; rfl, rfl⟩
    · have hv := Lib.hid (show inB lo hi zs = false by rw [inB_eq]; simp [h2])
      have b1 : (leastOf lo zs == lo) = true := by simp [h1]
      have b2 : (greatestOf hi zs == hi) = false := by simp [h2]
      clear h1 h2
      go_enter Tryd.func38, Tryd.ntmps38
      go_wp2_with (first | (go_at_call 62; refine (least_any _ _ _ _ hs).mono ?_; rintro e w' ⟨rfl, rfl⟩) | (go_at_call 63; refine (greatest_any _ _ _ _ hs).mono ?_; rintro e w' ⟨rfl, rfl⟩))
      go_ret
      exact ⟨by rw [hv.out]; rfl, rfl⟩
  · have hv := Lib.hid (show inB lo hi zs = false by rw [inB_eq]; simp [h1])
    have b1 : (leastOf lo zs == lo) = false := by simp [h1]
    clear h1
    go_enter Tryd.func38, Tryd.ntmps38
    go_wp2_with (first | (go_at_call 62; refine (least_any _ _ _ _ hs).mono ?_; rintro e w' ⟨rfl, rfl⟩) | (go_at_call 63; refine (greatest_any _ _ _ _ hs).mono ?_; rintro e w' ⟨rfl, rfl⟩))
    go_ret
    exact ⟨by rw [hv.out]; rfl, rfl⟩

end Go.Proofs.YthccbipjmheoaaaDoor
