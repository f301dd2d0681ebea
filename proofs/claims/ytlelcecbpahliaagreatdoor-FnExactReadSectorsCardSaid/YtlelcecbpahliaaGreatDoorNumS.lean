/- The contract of the model's reading of a number. -/
import Derived.Test.YtlelcecbpahliaaGreatDoorInts
import Derived.Test.YtlelcecbpahliaaGreatDoorNumM
import Derived.LoopTactic
import Derived.Outline
import Derived.Laws.Strings
namespace Go.Proofs.YtlelcecbpahliaaGreatDoor
open Go.ChangeShapes Go.WideShapes Go.ChangeAt Go.RowKit Pm

theorem dv_bd17 {t : List UInt8} (h : t.all isD = true) (hl : t.length ≤ 17) : dv 0 t ≤ 99999999999999999 := by
  have h1 := dv_lt 0 t h
  have h2 : 10 ^ t.length ≤ 10 ^ 17 := Nat.pow_le_pow_right (by omega) hl
  have h3 : (10 : Nat) ^ 17 = 100000000000000000 := by decide
  omega

theorem sdig_b (b : UInt8) (w : World) :
    Calls Tryz.prog 92 #[.int .u8 b.toNat] w fun e w' => e = .returned (.bool (isD b)) ∧ w = w' := by
  have hb := b.toNat_lt
  by_cases h1 : 48 ≤ b.toNat
  · by_cases h2 : b.toNat ≤ 57
    · have hv := Lib.hid (show isD b = true by rw [isD_iff]; exact ⟨h1, h2⟩)
      have i1 : (48 : Int) ≤ b.toNat := by omega
      have i2 : (b.toNat : Int) ≤ 57 := by omega
      go_enter Tryz.func92, Tryz.ntmps92
      go_wp2
      go_ret
      exact ⟨by rw [hv.out]; rfl, rfl⟩
    · have hv := Lib.hid (show isD b = false by simp [isD, h1]; omega)
      have i1 : (48 : Int) ≤ b.toNat := by omega
      have i2 : (57 : Int) < b.toNat := by omega
      go_enter Tryz.func92, Tryz.ntmps92
      go_wp2
      go_ret
      exact ⟨by rw [hv.out]; show Ending.returned (.bool (decide ((b.toNat : Int) ≤ 57))) = _; rw [decide_eq_false (by omega)], rfl⟩
  · have hv := Lib.hid (show isD b = false by simp [isD]; omega)
    have i1 : (b.toNat : Int) < 48 := by omega
    go_enter Tryz.func92, Tryz.ntmps92
    go_wp2
    go_ret
    exact ⟨by rw [hv.out]; rfl, rfl⟩

/-- The number read; 0 where there is none. -/
def numR (l : List UInt8) : Int := if canB l = true then numV l else 0
theorem numR_no {l : List UInt8} (h : canB l = false) : numR l = 0 := by unfold numR; rw [if_neg (by simp [h])]
theorem numR_yes {l : List UInt8} (h : canB l = true) : numR l = numV l := by unfold numR; rw [if_pos h]

theorem can_none {l : List UInt8} (h : body l = []) : canB l = false := by unfold canB; rw [h]; rfl
theorem can_long {l : List UInt8} (h : 18 < (body l).length) : canB l = false := by
  cases hc : canB l
  · rfl
  · have := (canB_out hc).2.1; omega
theorem can_zero {l : List UInt8} (h : (body l).head? = some 48) (h1 : 1 < l.length) : canB l = false := by
  cases hc : canB l
  · rfl
  · have := (canB_out hc).2.2.1 h; omega
theorem can_bad {l : List UInt8} {c : UInt8} (h : c ∈ body l) (hc : isD c = false) : canB l = false := by
  cases h' : canB l
  · rfl
  · have := List.all_eq_true.1 (canB_out h').2.2.2 c h
    rw [hc] at this; cases this

theorem ret2 {a b : Int} {p q : Bool} (h1 : a = b) (h2 : p = q) : Ending.returned (.tuple #[.int .i64 a, .bool p]) = .returned (.tuple #[.int .i64 b, .bool q]) := by rw [h1, h2]

theorem pre_snoc (s : ByteArray) (a k : Nat) (h : a ≤ k) (hk : k < s.size) : (s.data.toList.drop a).take (k + 1 - a) = (s.data.toList.drop a).take (k - a) ++ [s[k]] := by
  have hl : k - a < (s.data.toList.drop a).length := by simp; omega
  rw [show k + 1 - a = k - a + 1 by omega, List.take_succ_eq_append_getElem hl]
  congr 2
  rw [List.getElem_drop]
  show s.data.toList[a + (k - a)]'_ = s.data.toList[k]'_
  congr 1
  omega
theorem mem_drop (s : ByteArray) (a k : Nat) (h : a ≤ k) (hk : k < s.size) : s[k] ∈ s.data.toList.drop a := by
  have hl : k - a < (s.data.toList.drop a).length := by simp; omega
  have : (s.data.toList.drop a)[k - a] = s[k] := by
    rw [List.getElem_drop]
    show s.data.toList[a + (k - a)]'_ = s.data.toList[k]'_
    congr 1
    omega
  rw [← this]; exact List.getElem_mem _
theorem head_drop (s : ByteArray) (a : Nat) (h : a < s.size) : (s.data.toList.drop a).head? = some s[a] := by
  rw [List.head?_drop, List.getElem?_eq_getElem (by simpa using h)]; rfl
theorem size_list (s : ByteArray) : s.data.toList.length = s.size := by simp

theorem snum_pos (s : ByteArray) (w : World) (hs : s.size ≤ 9223372036854775807) (h0 : 0 < s.size) (hm : s[0].toNat ≠ 45) :
    Calls Tryz.prog 58 #[.string s] w fun e w' => e = .returned (.tuple #[.int .i64 (numR s.data.toList), .bool (canB s.data.toList)]) ∧ w = w' := by
  have hb45 : ((s[0].toNat : Int) == 45) = false := by simp; omega
  have hs0 : ((s.size : Int) == 0) = false := by rw [beq_eq_false_iff_ne]; omega
  have hh : s.data.toList.head? ≠ some 45 := by
    have := head_drop s 0 h0
    rw [List.drop_zero] at this
    rw [this]
    intro e
    have := Option.some.inj e
    exact hm (by rw [this]; rfl)
  have hbody : body s.data.toList = s.data.toList.drop 0 := by rw [List.drop_zero]; exact if_neg hh
  by_cases h18 : 18 < s.size
  · have HC := Lib.hid (can_long (l := s.data.toList) (by rw [hbody]; simpa using h18))
    have HR := Lib.hid (numR_no HC.out)
    clear hh hbody hm
    go_enter Tryz.func58, Tryz.ntmps58
    go_wp2_with (fail)
    go_ret2
    exact ⟨ret2 HR.out.symm HC.out.symm, rfl⟩
  have hl18 : (body s.data.toList).length ≤ 18 := by rw [hbody]; simpa using h18
  have hne : body s.data.toList ≠ [] := by rw [hbody]; intro e; have h9 := congrArg List.length e; rw [List.length_drop, size_list, List.length_nil] at h9; omega
  by_cases hz : s[0].toNat = 48
  · have hz48 : ((s[0].toNat : Int) == 48) = true := by simp; omega
    by_cases h1 : 1 < s.size
    · have HC := Lib.hid (can_zero (l := s.data.toList) (by rw [hbody, head_drop s 0 h0]; congr 1; exact UInt8.toNat_inj.1 hz) (by rw [size_list]; exact h1))
      have HR := Lib.hid (numR_no HC.out)
      clear hh hbody hm hl18 hne hz
      go_enter Tryz.func58, Tryz.ntmps58
      go_wp2_with (fail)
      go_ret2
      exact ⟨ret2 HR.out.symm HC.out.symm, rfl⟩
    have hzero : (body s.data.toList).head? = some 48 → s.data.toList.length ≤ 1 := fun _ => by rw [size_list]; omega
    have HHEAD := Lib.hid (show (if s.data.toList.head? = some 45 then -(dv 0 (body s.data.toList) : Int) else (dv 0 (body s.data.toList) : Int)) = (dv 0 (body s.data.toList) : Int) from if_neg hh)
    clear hh hm hz
    have HB := Lib.hid hbody
    have HL18 := Lib.hid hl18
    have HZ := Lib.hid hzero
    have HNE := Lib.hid hne
    clear hbody hl18 hzero hne
    go_enter Tryz.func58, Tryz.ntmps58
    go_wp2_with (fail)
    go_loop [5, 6] (fun a i => ∃ (k : Nat) (z : Int), 0 ≤ k ∧ k ≤ s.size ∧ i = .int .i64 k ∧ a = .int .i64 z ∧ z = (dv 0 ((s.data.toList.drop 0).take (k - 0)) : Int) ∧ ((s.data.toList.drop 0).take (k - 0)).all isD = true) (fun _ i => s.size - (intOf i).toNat)
    case atStart => exact ⟨0, 0, Nat.le_refl _, by omega, rfl, rfl, rfl, rfl⟩
    case round =>
      obtain ⟨k, z, hka, hks, rfl, rfl, hz, hall⟩ := hrel
      have hzb : 0 ≤ z ∧ z ≤ 999999999999999999 := by
        have hle : ((s.data.toList.drop 0).take (k - 0)).length ≤ 18 := by
          have h1 := HL18.out
          rw [HB.out] at h1
          exact Nat.le_trans (List.length_take_le' _ _) h1
        have := dv_bd hall hle
        omega
      obtain ⟨zb0, zb1⟩ := hzb
      have HZV := Lib.hid hz
      have HALL := Lib.hid hall
      clear hz hall
      by_cases hlt : k < s.size
      · cases hd : isD s[k]
        · have HC := Lib.hid (can_bad (by rw [HB.out]; exact mem_drop s 0 k hka hlt) hd)
          have HR := Lib.hid (numR_no HC.out)
          go_wp2_with (go_at_call 92; refine (sdig_b _ _).mono ?_; rintro e w' ⟨rfl, rfl⟩)
          go_ret2
          exact ⟨ret2 HR.out.symm HC.out.symm, rfl⟩
        · obtain ⟨b0, b1⟩ := isD_iff.1 hd
          have hzz : z ≤ 99999999999999999 := by
            have hle : ((s.data.toList.drop 0).take (k - 0)).length ≤ 17 := by
              have h1 := HL18.out
              rw [HB.out, List.length_drop, size_list] at h1
              exact Nat.le_trans (List.length_take_le _ _) (by omega)
            have := dv_bd17 HALL.out hle
            have := HZV.out
            omega
          have HS := Lib.hid (pre_snoc s 0 k hka hlt)
          have HD := Lib.hid hd
          go_wp2_with (go_at_call 92; refine (sdig_b _ _).mono ?_; rintro e w' ⟨rfl, rfl⟩)
          go_round
          case rel => exact ⟨k + 1, _, by omega, by omega, by go_num, rfl, by rw [HS.out, dv_snoc]; have := HZV.out; omega, by rw [HS.out, List.all_append, HALL.out]; simp [HD.out]⟩
          case measure => simp [intOf]; omega
      · have hfull : (s.data.toList.drop 0).take (k - 0) = body s.data.toList := by rw [HB.out]; exact List.take_of_length_le (by simp; omega)
        have HC2 : canB s.data.toList = true := canB_in HNE.out HL18.out HZ.out (by rw [← hfull]; exact HALL.out)
        have hz2 : z = (dv 0 (body s.data.toList) : Int) := by rw [← hfull]; exact HZV.out
        have hnr : numR s.data.toList = z := by rw [numR_yes HC2]; unfold numV; rw [HHEAD.out, hz2]
        have HNR := Lib.hid hnr
        have HCC := Lib.hid HC2
        clear hfull HC2 hz2 hnr
        go_wp2
        go_ret2
        exact ⟨ret2 HNR.out.symm HCC.out.symm, rfl⟩
  have hz48 : ((s[0].toNat : Int) == 48) = false := by simp; omega
  have hzero : (body s.data.toList).head? = some 48 → s.data.toList.length ≤ 1 := fun e => by
    rw [hbody, head_drop s 0 h0] at e
    exact absurd (by rw [Option.some.inj e]; rfl) hz
  have HHEAD := Lib.hid (show (if s.data.toList.head? = some 45 then -(dv 0 (body s.data.toList) : Int) else (dv 0 (body s.data.toList) : Int)) = (dv 0 (body s.data.toList) : Int) from if_neg hh)
  clear hh hm hz
  have HB := Lib.hid hbody
  have HL18 := Lib.hid hl18
  have HZ := Lib.hid hzero
  have HNE := Lib.hid hne
  clear hbody hl18 hzero hne
  go_enter Tryz.func58, Tryz.ntmps58
  go_wp2_with (fail)
  go_loop [5, 6] (fun a i => ∃ (k : Nat) (z : Int), 0 ≤ k ∧ k ≤ s.size ∧ i = .int .i64 k ∧ a = .int .i64 z ∧ z = (dv 0 ((s.data.toList.drop 0).take (k - 0)) : Int) ∧ ((s.data.toList.drop 0).take (k - 0)).all isD = true) (fun _ i => s.size - (intOf i).toNat)
  case atStart => exact ⟨0, 0, Nat.le_refl _, by omega, rfl, rfl, rfl, rfl⟩
  case round =>
    obtain ⟨k, z, hka, hks, rfl, rfl, hz, hall⟩ := hrel
    have hzb : 0 ≤ z ∧ z ≤ 999999999999999999 := by
      have hle : ((s.data.toList.drop 0).take (k - 0)).length ≤ 18 := by
        have h1 := HL18.out
        rw [HB.out] at h1
        exact Nat.le_trans (List.length_take_le' _ _) h1
      have := dv_bd hall hle
      omega
    obtain ⟨zb0, zb1⟩ := hzb
    have HZV := Lib.hid hz
    have HALL := Lib.hid hall
    clear hz hall
    by_cases hlt : k < s.size
    · cases hd : isD s[k]
      · have HC := Lib.hid (can_bad (by rw [HB.out]; exact mem_drop s 0 k hka hlt) hd)
        have HR := Lib.hid (numR_no HC.out)
        go_wp2_with (go_at_call 92; refine (sdig_b _ _).mono ?_; rintro e w' ⟨rfl, rfl⟩)
        go_ret2
        exact ⟨ret2 HR.out.symm HC.out.symm, rfl⟩
      · obtain ⟨b0, b1⟩ := isD_iff.1 hd
        have hzz : z ≤ 99999999999999999 := by
          have hle : ((s.data.toList.drop 0).take (k - 0)).length ≤ 17 := by
            have h1 := HL18.out
            rw [HB.out, List.length_drop, size_list] at h1
            exact Nat.le_trans (List.length_take_le _ _) (by omega)
          have := dv_bd17 HALL.out hle
          have := HZV.out
          omega
        have HS := Lib.hid (pre_snoc s 0 k hka hlt)
        have HD := Lib.hid hd
        go_wp2_with (go_at_call 92; refine (sdig_b _ _).mono ?_; rintro e w' ⟨rfl, rfl⟩)
        go_round
        case rel => exact ⟨k + 1, _, by omega, by omega, by go_num, rfl, by rw [HS.out, dv_snoc]; have := HZV.out; omega, by rw [HS.out, List.all_append, HALL.out]; simp [HD.out]⟩
        case measure => simp [intOf]; omega
    · have hfull : (s.data.toList.drop 0).take (k - 0) = body s.data.toList := by rw [HB.out]; exact List.take_of_length_le (by simp; omega)
      have HC2 : canB s.data.toList = true := canB_in HNE.out HL18.out HZ.out (by rw [← hfull]; exact HALL.out)
      have hz2 : z = (dv 0 (body s.data.toList) : Int) := by rw [← hfull]; exact HZV.out
      have hnr : numR s.data.toList = z := by rw [numR_yes HC2]; unfold numV; rw [HHEAD.out, hz2]
      have HNR := Lib.hid hnr
      have HCC := Lib.hid HC2
      clear hfull HC2 hz2 hnr
      go_wp2
      go_ret2
      exact ⟨ret2 HNR.out.symm HCC.out.symm, rfl⟩

theorem snum_neg (s : ByteArray) (w : World) (hs : s.size ≤ 9223372036854775807) (h0 : 0 < s.size) (hm : s[0].toNat = 45) :
    Calls Tryz.prog 58 #[.string s] w fun e w' => e = .returned (.tuple #[.int .i64 (numR s.data.toList), .bool (canB s.data.toList)]) ∧ w = w' := by
  have hb45 : ((s[0].toNat : Int) == 45) = true := by simp; omega
  have hh : s.data.toList.head? = some 45 := by
    have := head_drop s 0 h0
    rw [List.drop_zero] at this
    rw [this]
    congr 1
    exact UInt8.toNat_inj.1 hm
  have hbody : body s.data.toList = s.data.toList.drop 1 := by unfold body; rw [if_pos hh, List.drop_one]
  clear hm
  by_cases h1 : s.size = 1
  · have HC := Lib.hid (can_none (l := s.data.toList) (by rw [hbody]; exact List.length_eq_zero_iff.1 (by rw [List.length_drop, size_list]; omega)))
    have HR := Lib.hid (numR_no HC.out)
    have hs1 : ((s.size : Int) == 1) = true := by rw [beq_iff_eq]; omega
    clear hh hbody h1
    go_enter Tryz.func58, Tryz.ntmps58
    go_wp2_with (fail)
    go_ret2
    exact ⟨ret2 HR.out.symm HC.out.symm, rfl⟩
  have hs1 : ((s.size : Int) == 1) = false := by rw [beq_eq_false_iff_ne]; omega
  have h2 : 1 < s.size := by omega
  by_cases h18 : 19 < s.size
  · have HC := Lib.hid (can_long (l := s.data.toList) (by rw [hbody]; simp; omega))
    have HR := Lib.hid (numR_no HC.out)
    clear hh hbody h1
    go_enter Tryz.func58, Tryz.ntmps58
    go_wp2_with (fail)
    go_ret2
    exact ⟨ret2 HR.out.symm HC.out.symm, rfl⟩
  have hl18 : (body s.data.toList).length ≤ 18 := by rw [hbody]; simp; omega
  have hne : body s.data.toList ≠ [] := by rw [hbody]; intro e; have h9 := congrArg List.length e; rw [List.length_drop, size_list, List.length_nil] at h9; omega
  by_cases hz : s[1].toNat = 48
  · have hz48 : ((s[1].toNat : Int) == 48) = true := by simp; omega
    have HC := Lib.hid (can_zero (l := s.data.toList) (by rw [hbody, head_drop s 1 h2]; congr 1; exact UInt8.toNat_inj.1 hz) (by rw [size_list]; exact h2))
    have HR := Lib.hid (numR_no HC.out)
    clear hh hbody h1 hl18 hne hz
    go_enter Tryz.func58, Tryz.ntmps58
    go_wp2_with (fail)
    go_ret2
    exact ⟨ret2 HR.out.symm HC.out.symm, rfl⟩
  have hz48 : ((s[1].toNat : Int) == 48) = false := by simp; omega
  have hzero : (body s.data.toList).head? = some 48 → s.data.toList.length ≤ 1 := fun e => by
    rw [hbody, head_drop s 1 h2] at e
    exact absurd (by rw [Option.some.inj e]; rfl) hz
  have HHEAD := Lib.hid (show (if s.data.toList.head? = some 45 then -(dv 0 (body s.data.toList) : Int) else (dv 0 (body s.data.toList) : Int)) = -(dv 0 (body s.data.toList) : Int) from if_pos hh)
  clear hh h1 hz
  have HB := Lib.hid hbody
  have HL18 := Lib.hid hl18
  have HZ := Lib.hid hzero
  have HNE := Lib.hid hne
  clear hbody hl18 hzero hne
  go_enter Tryz.func58, Tryz.ntmps58
  go_wp2_with (fail)
  go_loop [5, 6] (fun a i => ∃ (k : Nat) (z : Int), 1 ≤ k ∧ k ≤ s.size ∧ i = .int .i64 k ∧ a = .int .i64 z ∧ z = (dv 0 ((s.data.toList.drop 1).take (k - 1)) : Int) ∧ ((s.data.toList.drop 1).take (k - 1)).all isD = true) (fun _ i => s.size - (intOf i).toNat)
  case atStart => exact ⟨1, 0, Nat.le_refl _, by omega, rfl, rfl, rfl, rfl⟩
  case round =>
    obtain ⟨k, z, hka, hks, rfl, rfl, hz, hall⟩ := hrel
    have hzb : 0 ≤ z ∧ z ≤ 999999999999999999 := by
      have hle : ((s.data.toList.drop 1).take (k - 1)).length ≤ 18 := by
        have h1 := HL18.out
        rw [HB.out] at h1
        exact Nat.le_trans (List.length_take_le' _ _) h1
      have := dv_bd hall hle
      omega
    obtain ⟨zb0, zb1⟩ := hzb
    have HZV := Lib.hid hz
    have HALL := Lib.hid hall
    clear hz hall
    by_cases hlt : k < s.size
    · cases hd : isD s[k]
      · have HC := Lib.hid (can_bad (by rw [HB.out]; exact mem_drop s 1 k hka hlt) hd)
        have HR := Lib.hid (numR_no HC.out)
        go_wp2_with (go_at_call 92; refine (sdig_b _ _).mono ?_; rintro e w' ⟨rfl, rfl⟩)
        go_ret2
        exact ⟨ret2 HR.out.symm HC.out.symm, rfl⟩
      · obtain ⟨b0, b1⟩ := isD_iff.1 hd
        have hzz : z ≤ 99999999999999999 := by
          have hle : ((s.data.toList.drop 1).take (k - 1)).length ≤ 17 := by
            have h1 := HL18.out
            rw [HB.out, List.length_drop, size_list] at h1
            exact Nat.le_trans (List.length_take_le _ _) (by omega)
          have := dv_bd17 HALL.out hle
          have := HZV.out
          omega
        have HS := Lib.hid (pre_snoc s 1 k hka hlt)
        have HD := Lib.hid hd
        go_wp2_with (go_at_call 92; refine (sdig_b _ _).mono ?_; rintro e w' ⟨rfl, rfl⟩)
        go_round
        case rel => exact ⟨k + 1, _, by omega, by omega, by go_num, rfl, by rw [HS.out, dv_snoc]; have := HZV.out; omega, by rw [HS.out, List.all_append, HALL.out]; simp [HD.out]⟩
        case measure => simp [intOf]; omega
    · have hfull : (s.data.toList.drop 1).take (k - 1) = body s.data.toList := by rw [HB.out]; exact List.take_of_length_le (by simp; omega)
      have HC2 : canB s.data.toList = true := canB_in HNE.out HL18.out HZ.out (by rw [← hfull]; exact HALL.out)
      have hz2 : z = (dv 0 (body s.data.toList) : Int) := by rw [← hfull]; exact HZV.out
      have hnr : numR s.data.toList = -z := by rw [numR_yes HC2]; unfold numV; rw [HHEAD.out, hz2]
      have HNR := Lib.hid hnr
      have HCC := Lib.hid HC2
      clear hfull HC2 hz2 hnr
      go_wp2
      go_ret2
      exact ⟨ret2 HNR.out.symm HCC.out.symm, rfl⟩

theorem snum_any (s : ByteArray) (w : World) (hs : s.size ≤ maxLen) :
    Calls Tryz.prog 58 #[.string s] w fun e w' => e = .returned (.tuple #[.int .i64 (numR s.data.toList), .bool (canB s.data.toList)]) ∧ w = w' := by
  unfold maxLen at hs
  by_cases h0 : 0 < s.size
  · by_cases hm : s[0].toNat = 45
    · exact snum_neg s w hs h0 hm
    · exact snum_pos s w hs h0 hm
  · have hnil : s.data.toList = [] := List.length_eq_zero_iff.1 (by rw [size_list]; omega)
    have HC := Lib.hid (can_none (l := s.data.toList) (by rw [hnil]; rfl))
    have HR := Lib.hid (numR_no HC.out)
    have hs0 : ((s.size : Int) == 0) = true := by rw [beq_iff_eq]; omega
    clear hnil
    go_enter Tryz.func58, Tryz.ntmps58
    go_wp2_with (fail)
    go_ret2
    exact ⟨ret2 HR.out.symm HC.out.symm, rfl⟩

end Go.Proofs.YtlelcecbpahliaaGreatDoor
