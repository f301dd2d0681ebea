/- The model's reading of digits, dates and times. -/
import Derived.Test.YtjjkbbcpihaphaaDoorNumS
import Derived.Test.YtjjkbbcpihaphaaDoorListS
import Derived.Test.YtjjkbbcpihaphaaDoorDtx
namespace Go.Proofs.YtjjkbbcpihaphaaDoor
open Go.ChangeShapes Go.WideShapes Go.ChangeAt Go.RowKit Pm

/-- Digits alone? -/
def allD (l : List UInt8) : Bool := l.all isD
/-- The number of digits; 0 where there are others. -/
def digV (l : List UInt8) : Int := if l.all isD = true then (dv 0 l : Int) else 0
theorem digV_yes {l : List UInt8} (h : l.all isD = true) : digV l = (dv 0 l : Int) := by unfold digV; rw [if_pos h]
theorem digV_no {l : List UInt8} (h : l.all isD = false) : digV l = 0 := by unfold digV; rw [if_neg (by simp [h])]
theorem isD_low {b : UInt8} (h : b.toNat < 48) : isD b = false := by simp [isD]; omega
theorem isD_high {b : UInt8} (h : 57 < b.toNat) : isD b = false := by simp [isD]; omega
theorem all_bad {s : ByteArray} {k : Nat} (hk : k < s.size) (h : isD s[k] = false) : s.data.toList.all isD = false := by
  cases c : s.data.toList.all isD
  · rfl
  · have := List.all_eq_true.1 c s[k] (by have := mem_drop s 0 k (Nat.zero_le _) hk; rwa [List.drop_zero] at this)
    rw [h] at this; cases this

theorem sdigits_any (s : ByteArray) (w : World) (hs : s.size ≤ 10) :
    Calls Tryd.prog 53 #[.string s] w (SameIB (digV s.data.toList) (allD s.data.toList) w) := by
  have hsi : (s.size : Int) ≤ 10 := by omega
  go_enter Tryd.func53, Tryd.ntmps53
  go_wp2_with (fail)
  go_loop [4, 5] (fun a i => ∃ (k : Nat) (z : Int), k ≤ s.size ∧ i = .int .i64 k ∧ a = .int .i64 z ∧ Hid (z = (dv 0 ((s.data.toList.drop 0).take (k - 0)) : Int)) ∧ Hid (((s.data.toList.drop 0).take (k - 0)).all isD = true)) (fun _ i => s.size - (intOf i).toNat)
  case atStart => exact ⟨0, 0, Nat.zero_le _, rfl, rfl, Lib.hid rfl, Lib.hid rfl⟩
  case round =>
    obtain ⟨k, z, hks, rfl, rfl, HZV, HALL⟩ := hrel
    have hzb : 0 ≤ z ∧ z ≤ 99999999999999999 := by
      have hle : ((s.data.toList.drop 0).take (k - 0)).length ≤ 17 := Nat.le_trans (List.length_take_le _ _) (by omega)
      have := dv_bd17 HALL.out hle
      have := HZV.out
      omega
    obtain ⟨zb0, zb1⟩ := hzb
    by_cases hlt : k < s.size
    · by_cases c1 : s[k].toNat < 48
      · have HN := Lib.hid (show allD s.data.toList = false from all_bad hlt (isD_low c1))
        have HR := Lib.hid (digV_no HN.out)
        have i1 : (s[k].toNat : Int) < 48 := by omega
        go_wp2_with (fail)
        go_ret2
        exact ⟨ret2 HR.out.symm HN.out.symm, rfl⟩
      · by_cases c2 : 57 < s[k].toNat
        · have HN := Lib.hid (show allD s.data.toList = false from all_bad hlt (isD_high c2))
          have HR := Lib.hid (digV_no HN.out)
          have i1 : 48 ≤ (s[k].toNat : Int) := by omega
          have i2 : 57 < (s[k].toNat : Int) := by omega
          go_wp2_with (fail)
          go_ret2
          exact ⟨ret2 HR.out.symm HN.out.symm, rfl⟩
        · have HS := Lib.hid (pre_snoc s 0 k (Nat.zero_le _) hlt)
          have hd : isD s[k] = true := by rw [isD_iff]; omega
          have HD := Lib.hid hd
          have i1 : 48 ≤ (s[k].toNat : Int) := by omega
          have i2 : (s[k].toNat : Int) ≤ 57 := by omega
          clear hd
          go_wp2_with (fail)
          go_round
          case rel => exact ⟨k + 1, _, by omega, by go_num, rfl, Lib.hid (by rw [HS.out, dv_snoc]; have := HZV.out; omega), Lib.hid (by rw [HS.out, List.all_append, HALL.out]; simp [HD.out])⟩
          case measure => simp [intOf]; omega
    · have hfull : (s.data.toList.drop 0).take (k - 0) = s.data.toList := by rw [List.drop_zero]; exact List.take_of_length_le (by rw [size_list]; omega)
      have HA := Lib.hid (show allD s.data.toList = true by rw [← hfull]; exact HALL.out)
      have HR := Lib.hid (show digV s.data.toList = z by rw [digV_yes HA.out, HZV.out, hfull])
      clear hfull
      go_wp2
      go_ret2
      exact ⟨ret2 HR.out.symm HA.out.symm, rfl⟩
end Go.Proofs.YtjjkbbcpihaphaaDoor
