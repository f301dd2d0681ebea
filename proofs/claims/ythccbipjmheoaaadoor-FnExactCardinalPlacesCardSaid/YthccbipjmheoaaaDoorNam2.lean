/- The contracts of names, in the document's chapter and in the program. -/
import Derived.Test.YthccbipjmheoaaaDoorInts
import Derived.Test.YthccbipjmheoaaaDoorWithinB
import Derived.LoopTactic
import Derived.Outline
import Derived.Laws.Strings
namespace Go.Proofs.YthccbipjmheoaaaDoor
open Go.ChangeShapes Go.WideShapes Go.ChangeAt Go.RowKit Pm

theorem ssmall_any (n : Int) (w : World) :
    Calls Tryd.prog 54 #[.int .u8 n] w fun e w' => e = .returned (.bool (inB 97 122 [n])) ∧ w = w' := by
  by_cases h1 : 97 ≤ n
  · by_cases h2 : n ≤ 122
    · have hv := Lib.hid (show inB 97 122 [n] = true by simp [inB, h1, h2])
      go_enter Tryd.func54, Tryd.ntmps54
      go_wp2
      go_ret
      exact ⟨by rw [hv.out]; rfl, rfl⟩
    · have hv := Lib.hid (show inB 97 122 [n] = false by simp [inB, h1, h2])
      go_enter Tryd.func54, Tryd.ntmps54
      go_wp2
      go_ret
      exact ⟨by rw [hv.out]; rfl, rfl⟩
  · have hv := Lib.hid (show inB 97 122 [n] = false by simp [inB, h1])
    go_enter Tryd.func54, Tryd.ntmps54
    go_wp2
    go_ret
    exact ⟨by rw [hv.out]; rfl, rfl⟩

theorem sdigit_any (n : Int) (w : World) :
    Calls Tryd.prog 55 #[.int .u8 n] w fun e w' => e = .returned (.bool (inB 48 57 [n])) ∧ w = w' := by
  by_cases h1 : 48 ≤ n
  · by_cases h2 : n ≤ 57
    · have hv := Lib.hid (show inB 48 57 [n] = true by simp [inB, h1, h2])
      go_enter Tryd.func55, Tryd.ntmps55
      go_wp2
      go_ret
      exact ⟨by rw [hv.out]; rfl, rfl⟩
    · have hv := Lib.hid (show inB 48 57 [n] = false by simp [inB, h1, h2])
      go_enter Tryd.func55, Tryd.ntmps55
      go_wp2
      go_ret
      exact ⟨by rw [hv.out]; rfl, rfl⟩
  · have hv := Lib.hid (show inB 48 57 [n] = false by simp [inB, h1])
    go_enter Tryd.func55, Tryd.ntmps55
    go_wp2
    go_ret
    exact ⟨by rw [hv.out]; rfl, rfl⟩

theorem small_any (n : Int) (w : World) :
    Calls Tryd.prog 60 #[.int .u8 n] w fun e w' => e = .returned (.bool (inB 97 122 [n])) ∧ Below w.heap.size w w' := by
  have H1 := ints_one w .u8 n 5
  go_enter Tryd.func60, Tryd.ntmps60
  go_wp2_with (go_at_call 75; refine (within_byte _ _ _ _ _ H1).mono ?_; rintro e w' ⟨rfl, rfl⟩)
  go_ret
  exact ⟨rfl, (Below.refl _ _).alloc (Nat.le_refl _) _⟩

theorem digit_any (n : Int) (w : World) :
    Calls Tryd.prog 61 #[.int .u8 n] w fun e w' => e = .returned (.bool (inB 48 57 [n])) ∧ Below w.heap.size w w' := by
  have H1 := ints_one w .u8 n 5
  go_enter Tryd.func61, Tryd.ntmps61
  go_wp2_with (go_at_call 75; refine (within_byte _ _ _ _ _ H1).mono ?_; rintro e w' ⟨rfl, rfl⟩)
  go_ret
  exact ⟨rfl, (Below.refl _ _).alloc (Nat.le_refl _) _⟩

def smallB (b : UInt8) : Bool := inB 97 122 [(b.toNat : Int)]
def digitB (b : UInt8) : Bool := inB 48 57 [(b.toNat : Int)]
def okNB (b : UInt8) : Bool := smallB b || digitB b
def nameB (l : List UInt8) : Bool := inB 1 10 [(l.length : Int)] && smallB (l.headD 0) && l.all okNB

theorem nameB_long {s : ByteArray} (h : 10 < s.size) : nameB s.data.toList = false := by
  have : inB 1 10 [((s.data.toList.length : Nat) : Int)] = false := by
    have e : s.data.toList.length = s.size := by simp
    rw [e]; simp [inB]; omega
  unfold nameB; rw [this]; rfl
theorem nameB_none {s : ByteArray} (h : s.size = 0) : nameB s.data.toList = false := by
  have : inB 1 10 [((s.data.toList.length : Nat) : Int)] = false := by
    have e : s.data.toList.length = s.size := by simp
    rw [e]; simp [inB]; omega
  unfold nameB; rw [this]; rfl
theorem headD_get (l : List UInt8) (h : 0 < l.length) : l.headD 0 = l[0] := by
  cases l with
  | nil => simp at h
  | cons a l => rfl
theorem head_eq (s : ByteArray) (h : 0 < s.size) : s.data.toList.headD 0 = s[0] := headD_get s.data.toList (by simpa using h)
theorem nameB_head {s : ByteArray} (h : 0 < s.size) (hb : smallB s[0] = false) : nameB s.data.toList = false := by
  unfold nameB; rw [head_eq s h, hb]; simp
theorem nameB_bad {s : ByteArray} {k : Nat} (h : k < s.size) (hb : okNB s[k] = false) : nameB s.data.toList = false := by
  unfold nameB
  have : s.data.toList.all okNB = false := by
    rw [List.all_eq_false]
    exact ⟨s[k], by rw [show s[k] = s.data.toList[k]'(by simpa using h) from rfl]; exact List.getElem_mem _, by simp [hb]⟩
  rw [this]; simp
theorem nameB_yes {s : ByteArray} (h : 0 < s.size) (h1 : s.size ≤ 10) (hb : smallB s[0] = true) (ha : ∀ i (hi : i < s.size), okNB s[i] = true) : nameB s.data.toList = true := by
  unfold nameB
  have e : s.data.toList.length = s.size := by simp
  have e1 : inB 1 10 [((s.data.toList.length : Nat) : Int)] = true := by rw [e]; simp [inB]; omega
  have e2 : s.data.toList.all okNB = true := by
    rw [List.all_eq_true]
    intro x hx
    obtain ⟨i, hi, rfl⟩ := List.getElem_of_mem hx
    exact ha i (by omega)
  rw [e1, e2, head_eq s h, hb]; rfl

theorem ssmall_b (b : UInt8) (w : World) :
    Calls Tryd.prog 54 #[.int .u8 b.toNat] w fun e w' => e = .returned (.bool (smallB b)) ∧ w = w' := ssmall_any _ _
theorem sdigit_b (b : UInt8) (w : World) :
    Calls Tryd.prog 55 #[.int .u8 b.toNat] w fun e w' => e = .returned (.bool (digitB b)) ∧ w = w' := sdigit_any _ _
theorem small_b (b : UInt8) (w : World) :
    Calls Tryd.prog 60 #[.int .u8 b.toNat] w fun e w' => e = .returned (.bool (smallB b)) ∧ Below w.heap.size w w' := small_any _ _
theorem digit_b (b : UInt8) (w : World) :
    Calls Tryd.prog 61 #[.int .u8 b.toNat] w fun e w' => e = .returned (.bool (digitB b)) ∧ Below w.heap.size w w' := digit_any _ _

theorem sname_any (s : ByteArray) (w : World) (hs : s.size ≤ maxLen) :
    Calls Tryd.prog 34 #[.string s] w fun e w' => e = .returned (.bool (nameB s.data.toList)) ∧ w = w' := by
  unfold maxLen at hs
  by_cases h0 : s.size = 0
  · have e1 : s.toList = [] := by rw [ByteArray.toList_eq]; exact List.length_eq_zero_iff.1 (by simpa using h0)
    have e2 : s.toList.isEmpty = true := by rw [e1]; rfl
    have hv := Lib.hid (nameB_none h0)
    go_enter Tryd.func34, Tryd.ntmps34
    go_wp2_with (fail)
    go_ret
    exact ⟨by rw [hv.out]; rfl, rfl⟩
  have e1 : ¬ s.toList = [] := by rw [ByteArray.toList_eq]; intro e; exact h0 (by have := congrArg List.length e; simpa using this)
  have e2 : s.toList.isEmpty = false := by simpa using e1
  by_cases h1 : 10 < s.size
  · have hv := Lib.hid (nameB_long h1)
    go_enter Tryd.func34, Tryd.ntmps34
    go_wp2_with (fail)
    go_ret
    exact ⟨by rw [hv.out]; rfl, rfl⟩
  have hp : 0 < s.size := by omega
  have hq : s.size ≤ 10 := by omega
  clear h0 h1
  cases hb0 : smallB s[0]
  · have hv := Lib.hid (nameB_head hp hb0)
    go_enter Tryd.func34, Tryd.ntmps34
    go_wp2_with (go_at_call 54; refine (ssmall_b _ _).mono ?_; rintro e w' ⟨rfl, rfl⟩)
    go_ret
    exact ⟨by rw [hv.out]; rfl, rfl⟩
  have HYES := Lib.hid (nameB_yes hp hq hb0)
  go_enter Tryd.func34, Tryd.ntmps34
  go_wp2_with (go_at_call 54; refine (ssmall_b _ _).mono ?_; rintro e w' ⟨rfl, rfl⟩)
  clear hb0
  go_loop [3] (fun i => ∃ k : Nat, k ≤ s.size ∧ i = .int .i64 k ∧ ∀ j (hj : j < s.size), j < k → okNB s[j] = true) (fun i => s.size - (intOf i).toNat)
  case atStart => exact ⟨0, Nat.zero_le _, rfl, fun j _ hj => by omega⟩
  case round =>
    obtain ⟨k, hk, rfl, hall⟩ := hrel
    have HALL := Lib.hid hall
    clear hall
    by_cases hlt : k < s.size
    · cases hb : smallB s[k]
      · cases hd : digitB s[k]
        · have hv := Lib.hid (nameB_bad hlt (by unfold okNB; rw [hb, hd]; rfl))
          go_wp2_with (first | (go_at_call 54; refine (ssmall_b _ _).mono ?_; rintro e w' ⟨rfl, rfl⟩) | (go_at_call 55; refine (sdigit_b _ _).mono ?_; rintro e w' ⟨rfl, rfl⟩))
          go_ret
          exact ⟨by rw [hv.out]; rfl, rfl⟩
        · have hv := Lib.hid (show okNB s[k] = true by unfold okNB; rw [hb, hd]; rfl)
          go_wp2_with (first | (go_at_call 54; refine (ssmall_b _ _).mono ?_; rintro e w' ⟨rfl, rfl⟩) | (go_at_call 55; refine (sdigit_b _ _).mono ?_; rintro e w' ⟨rfl, rfl⟩))
          go_round
          case rel => exact ⟨k + 1, by omega, by go_num, fun j hj hjk => by
            by_cases e : j = k
            · subst e; exact hv.out
            · exact HALL.out j hj (by omega)⟩
          case measure => simp [intOf]; omega
      · have hv := Lib.hid (show okNB s[k] = true by unfold okNB; rw [hb]; rfl)
        go_wp2_with (first | (go_at_call 54; refine (ssmall_b _ _).mono ?_; rintro e w' ⟨rfl, rfl⟩) | (go_at_call 55; refine (sdigit_b _ _).mono ?_; rintro e w' ⟨rfl, rfl⟩))
        go_round
        case rel => exact ⟨k + 1, by omega, by go_num, fun j hj hjk => by
          by_cases e : j = k
          · subst e; exact hv.out
          · exact HALL.out j hj (by omega)⟩
        case measure => simp [intOf]; omega
    · have hv := Lib.hid (HYES.out (fun i hi => HALL.out i hi (by omega)))
      go_wp2
      go_ret
      exact ⟨by rw [hv.out]; rfl, rfl⟩


theorem isname_any (s : ByteArray) (w : World) (hs : s.size ≤ maxLen) :
    Calls Tryd.prog 37 #[.string s] w fun e w' => e = .returned (.bool (nameB s.data.toList)) ∧ Below w.heap.size w w' := by
  unfold maxLen at hs
  have H1 := ints_one w .i64 (s.size : Int) 3
  cases h1 : inB 1 10 [(s.size : Int)]
  · have hv := Lib.hid (show nameB s.data.toList = false by
      by_cases h : s.size = 0
      · exact nameB_none h
      · exact nameB_long (by simp [inB] at h1; omega))
    go_enter Tryd.func37, Tryd.ntmps37
    go_wp2_with (go_at_call 59; refine (within_int _ _ _ _ _ H1).mono ?_; rintro e w' ⟨rfl, rfl⟩)
    go_ret
    exact ⟨by rw [hv.out]; rfl, (Below.refl _ _).alloc (Nat.le_refl _) _⟩
  have hpq : 0 < s.size ∧ s.size ≤ 10 := by simp [inB] at h1; omega
  obtain ⟨hp, hq⟩ := hpq
  cases hb0 : smallB s[0]
  · have hv := Lib.hid (nameB_head hp hb0)
    go_enter Tryd.func37, Tryd.ntmps37
    go_wp2_with (first | (go_at_call 59; refine (within_int _ _ _ _ _ H1).mono ?_; rintro e w' ⟨rfl, rfl⟩) | (go_at_call 60; refine (small_b _ _).mono ?_; rintro e w' ⟨rfl, hbel⟩))
    go_ret
    exact ⟨by rw [hv.out]; rfl, ((Below.refl _ _).alloc (Nat.le_refl _) _).trans (hbel.mono (by simp))⟩
  have HYES := Lib.hid (nameB_yes hp hq hb0)
  go_enter Tryd.func37, Tryd.ntmps37
  go_wp2_with (first | (go_at_call 59; refine (within_int _ _ _ _ _ H1).mono ?_; rintro e w' ⟨rfl, rfl⟩) | (go_at_call 60; refine (small_b _ _).mono ?_; rintro e w' ⟨rfl, hbel⟩))
  clear hb0 H1
  have hbel2 : Below w.heap.size w w' := ((Below.refl _ _).alloc (Nat.le_refl _) _).trans (hbel.mono (by simp))
  clear hbel h1
  go_loopw [17] (fun i wr => ∃ k : Nat, k ≤ s.size ∧ i = .int .i64 k ∧ (∀ j (hj : j < s.size), j < k → okNB s[j] = true) ∧ Below w.heap.size w wr) (fun i _ => s.size - (intOf i).toNat)
  case atStart => exact ⟨0, Nat.zero_le _, rfl, fun j _ hj => by omega, hbel2⟩
  case round =>
    obtain ⟨k, hk, rfl, hall, hwr⟩ := hrel
    have HALL := Lib.hid hall
    have HW := Lib.hid hwr
    clear hall hwr hbel2
    by_cases hlt : k < s.size
    · cases hb : smallB s[k]
      · cases hd : digitB s[k]
        · have hv := Lib.hid (nameB_bad hlt (by unfold okNB; rw [hb, hd]; rfl))
          go_wp2_with (first | (go_at_call 60; refine (small_b _ _).mono ?_; rintro e w1 ⟨rfl, hb1⟩) | (go_at_call 61; refine (digit_b _ _).mono ?_; rintro e w2 ⟨rfl, hb2⟩))
          go_ret
          exact ⟨by rw [hv.out]; rfl, (HW.out.trans (hb1.mono HW.out.size)).trans (hb2.mono (HW.out.trans (hb1.mono HW.out.size)).size)⟩
        · have hv := Lib.hid (show okNB s[k] = true by unfold okNB; rw [hb, hd]; rfl)
          go_wp2_with (first | (go_at_call 60; refine (small_b _ _).mono ?_; rintro e w1 ⟨rfl, hb1⟩) | (go_at_call 61; refine (digit_b _ _).mono ?_; rintro e w2 ⟨rfl, hb2⟩))
          go_roundw
          case rel => exact ⟨k + 1, by omega, by go_num, fun j hj hjk => by
            by_cases e : j = k
            · subst e; exact hv.out
            · exact HALL.out j hj (by omega), (HW.out.trans (hb1.mono HW.out.size)).trans (hb2.mono (HW.out.trans (hb1.mono HW.out.size)).size)⟩
          case measure => simp [intOf]; omega
      · have hv := Lib.hid (show okNB s[k] = true by unfold okNB; rw [hb]; rfl)
        go_wp2_with (first | (go_at_call 60; refine (small_b _ _).mono ?_; rintro e w1 ⟨rfl, hb1⟩) | (go_at_call 61; refine (digit_b _ _).mono ?_; rintro e w2 ⟨rfl, hb2⟩))
        go_roundw
        case rel => exact ⟨k + 1, by omega, by go_num, fun j hj hjk => by
          by_cases e : j = k
          · subst e; exact hv.out
          · exact HALL.out j hj (by omega), HW.out.trans (hb1.mono HW.out.size)⟩
        case measure => simp [intOf]; omega
    · have hv := Lib.hid (HYES.out (fun i hi => HALL.out i hi (by omega)))
      go_wp2
      go_ret
      exact ⟨by rw [hv.out]; rfl, HW.out⟩
end Go.Proofs.YthccbipjmheoaaaDoor
