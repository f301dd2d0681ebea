/- The contracts of the check value of 16 bits, in the document's chapter and in the program. -/
import Derived.Test.YtppfgcjeeokomaaDivLaw
import Derived.LoopTactic
import Derived.Outline
import Derived.Laws.BitsAllLaws
namespace Go.Proofs.Ytppfgcjeeokomaa
open Go.ChangeShapes Go.WideShapes Go.ChangeAt Go.RowKit Pm

theorem i64_and_nat (a b : Nat) (ha : a < 9223372036854775808) (hb : b < 9223372036854775808) : bits .and .i64 (a : Int) (b : Int) = ((a &&& b : Nat) : Int) := by
  have hx : a &&& b < 2 ^ 63 := Nat.and_lt_two_pow _ (by omega)
  show IntKind.i64.wrap ((BitVec.ofInt 64 (a : Int) &&& BitVec.ofInt 64 (b : Int)).toNat : Int) = _
  rw [BitVec.toNat_and, ofInt_u64 a (by omega), ofInt_u64 b (by omega)]
  exact IntWalk.i64_in _ ⟨by omega, by omega⟩
theorem i64_xor_nat (a b : Nat) (ha : a < 9223372036854775808) (hb : b < 9223372036854775808) : bits .xor .i64 (a : Int) (b : Int) = ((a ^^^ b : Nat) : Int) := by
  have hx : a ^^^ b < 2 ^ 63 := Nat.xor_lt_two_pow (by omega) (by omega)
  show IntKind.i64.wrap ((BitVec.ofInt 64 (a : Int) ^^^ BitVec.ofInt 64 (b : Int)).toNat : Int) = _
  rw [BitVec.toNat_xor, ofInt_u64 a (by omega), ofInt_u64 b (by omega)]
  exact IntWalk.i64_in _ ⟨by omega, by omega⟩

/-- Exclusive or of two numbers of 16 bits is one. -/
theorem xor16 (a b : Int) (a0 : 0 ≤ a) (a1 : a ≤ 65535) (b0 : 0 ≤ b) (b1 : b ≤ 65535) : 0 ≤ bits .xor .i64 a b ∧ bits .xor .i64 a b ≤ 65535 := by
  obtain ⟨x, rfl⟩ := Int.eq_ofNat_of_zero_le a0
  obtain ⟨y, rfl⟩ := Int.eq_ofNat_of_zero_le b0
  rw [i64_xor_nat x y (by omega) (by omega)]
  have : x ^^^ y < 2 ^ 16 := Nat.xor_lt_two_pow (by omega) (by omega)
  omega

theorem and16 (a : Int) (a0 : 0 ≤ a) (a1 : a ≤ 1000000) : 0 ≤ bits .and .i64 a 65535 ∧ bits .and .i64 a 65535 ≤ 65535 := by
  obtain ⟨x, rfl⟩ := Int.eq_ofNat_of_zero_le a0
  rw [show (65535 : Int) = ((65535 : Nat) : Int) from rfl, i64_and_nat x 65535 (by omega) (by omega)]
  have : x &&& 65535 < 2 ^ 16 := Nat.and_lt_two_pow _ (by omega)
  omega

/-- One doubling. -/
def crcBit (c : Int) : Int := if 65535 < c * 2 then bits .xor .i64 (bits .and .i64 (c * 2) 65535) 4129 else c * 2
def crcIter : Nat → Int → Int
  | 0, c => c
  | k + 1, c => crcBit (crcIter k c)
def crcStep (c : Int) (b : UInt8) : Int := crcIter 8 (bits .xor .i64 c ((b.toNat : Int) * 256))
def crcV (l : List UInt8) (c : Int) : Int := l.foldl crcStep c

theorem crcBit_bd {c : Int} (c0 : 0 ≤ c) (c1 : c ≤ 65535) : 0 ≤ crcBit c ∧ crcBit c ≤ 65535 := by
  unfold crcBit
  split
  · obtain ⟨h1, h2⟩ := and16 (c * 2) (by omega) (by omega)
    exact xor16 _ _ h1 h2 (by omega) (by omega)
  · omega
theorem crcIter_bd (k : Nat) {c : Int} (c0 : 0 ≤ c) (c1 : c ≤ 65535) : 0 ≤ crcIter k c ∧ crcIter k c ≤ 65535 := by
  induction k with
  | zero => exact ⟨c0, c1⟩
  | succ k ih => exact crcBit_bd ih.1 ih.2
theorem byte_bd (b : UInt8) : 0 ≤ (b.toNat : Int) * 256 ∧ (b.toNat : Int) * 256 ≤ 65535 := by
  have := b.toNat_lt; omega
theorem crcStep_bd {c : Int} (b : UInt8) (c0 : 0 ≤ c) (c1 : c ≤ 65535) : 0 ≤ crcStep c b ∧ crcStep c b ≤ 65535 := by
  obtain ⟨h1, h2⟩ := xor16 c _ c0 c1 (byte_bd b).1 (byte_bd b).2
  exact crcIter_bd 8 h1 h2
theorem crcV_bd (l : List UInt8) {c : Int} (c0 : 0 ≤ c) (c1 : c ≤ 65535) : 0 ≤ crcV l c ∧ crcV l c ≤ 65535 := by
  induction l generalizing c with
  | nil => exact ⟨c0, c1⟩
  | cons b l ih => exact ih (crcStep_bd b c0 c1).1 (crcStep_bd b c0 c1).2
theorem take_snoc (s : ByteArray) (k : Nat) (h : k < s.size) : s.data.toList.take (k + 1) = s.data.toList.take k ++ [s[k]] := by
  rw [List.take_succ_eq_append_getElem (by simpa using h)]; rfl
theorem crcV_snoc (s : ByteArray) (k : Nat) (h : k < s.size) (c : Int) : crcV (s.data.toList.take (k + 1)) c = crcStep (crcV (s.data.toList.take k) c) s[k] := by
  rw [take_snoc s k h]; simp [crcV]

theorem scrc_any (s : ByteArray) (c : Int) (w : World) (hs : s.size ≤ maxLen) (c0 : 0 ≤ c) (c1 : c ≤ 65535) :
    Calls Try.prog 23 #[.string s, .int .i64 c] w fun e w' => e = .returned (.int .i64 (crcV s.data.toList c)) ∧ w = w' := by
  unfold maxLen at hs
  go_enter Try.func23, Try.ntmps23
  go_wp2
  go_loop [1, 5] (fun a i => ∃ (k : Nat) (x : Int), k ≤ s.size ∧ i = .int .i64 k ∧ a = .int .i64 x ∧ x = crcV (s.data.toList.take k) c) (fun _ i => s.size - (intOf i).toNat)
  case atStart => exact ⟨0, c, Nat.zero_le _, rfl, rfl, rfl⟩
  case round =>
    obtain ⟨k, x, hk, rfl, rfl, hx⟩ := hrel
    obtain ⟨x0, x1⟩ := crcV_bd (s.data.toList.take k) c0 c1
    rw [← hx] at x0 x1
    by_cases hlt : k < s.size
    · obtain ⟨z0, z1⟩ := xor16 x _ x0 x1 (byte_bd s[k]).1 (byte_bd s[k]).2
      have HS := Lib.hid (crcV_snoc s k hlt c)
      have HX := Lib.hid hx
      clear hx
      obtain ⟨bb0, bb1⟩ := byte_bd s[k]
      go_wp2
      go_loop [1, 6] (fun a i => ∃ (j : Nat) (y : Int), j ≤ 8 ∧ i = .int .i64 j ∧ a = .int .i64 y ∧ y = crcIter j (bits .xor .i64 x ((s[k].toNat : Int) * 256))) (fun _ i => 8 - (intOf i).toNat)
      case atStart => exact ⟨0, _, by omega, rfl, rfl, rfl⟩
      case round =>
        obtain ⟨j, y, hj, rfl, rfl, hy⟩ := hrel
        obtain ⟨y0, y1⟩ := crcIter_bd j z0 z1
        rw [← hy] at y0 y1
        have HY := Lib.hid hy
        clear hy
        by_cases hj8 : j < 8
        · have HB : Hid (crcIter (j + 1) (bits .xor .i64 x ((s[k].toNat : Int) * 256)) = crcBit y) := by rw [HY.out]; exact rfl
          by_cases hb : 65535 < y * 2
          · have HV : Hid (crcBit y = bits .xor .i64 (bits .and .i64 (y * 2) 65535) 4129) := by unfold crcBit; rw [if_pos hb]; exact rfl
            go_wp2
            exact ⟨⟨j + 1, _, by omega, by go_num, rfl, by rw [HB.out, HV.out]⟩, by simp only [intOf]; omega⟩
          · have HV : Hid (crcBit y = y * 2) := by unfold crcBit; rw [if_neg hb]; exact rfl
            go_wp2
            exact ⟨⟨j + 1, _, by omega, by go_num, rfl, by rw [HB.out, HV.out]⟩, by simp only [intOf]; omega⟩
        · obtain rfl : j = 8 := by omega
          go_wp2
          go_round
          case rel => exact ⟨k + 1, y, by omega, by go_num, rfl, by rw [HS.out, ← HX.out, HY.out]; rfl⟩
          case measure => simp [intOf]; omega
    · have HX := Lib.hid hx
      clear hx
      go_wp2
      go_ret
      exact ⟨ret_i (by rw [HX.out, List.take_of_length_le (by simp; omega)]), rfl⟩

/-- The check value; 0 where the beginning is no number of 16 bits. -/
def crcOf (l : List UInt8) (c : Int) : Int := if inB 0 65535 [c] = true then crcV l c else 0
theorem crcOf_no {l : List UInt8} {c : Int} (h : inB 0 65535 [c] = false) : crcOf l c = 0 := by unfold crcOf; rw [if_neg (by simp [h])]
theorem crcOf_yes {l : List UInt8} {c : Int} (h : inB 0 65535 [c] = true) : crcOf l c = crcV l c := by unfold crcOf; rw [if_pos h]

theorem scrc16_any (s : ByteArray) (c : Int) (w : World) (hs : s.size ≤ maxLen) :
    Calls Try.prog 10 #[.string s, .int .i64 c] w fun e w' => e = .returned (.int .i64 (crcOf s.data.toList c)) ∧ w = w' := by
  cases h : inB 0 65535 [c]
  · have HO := Lib.hid (crcOf_no (l := s.data.toList) h)
    go_enter Try.func10, Try.ntmps10
    go_wp2_with (go_at_call 22; refine (in_any _ _ _ _).mono ?_; rintro e w' ⟨rfl, rfl⟩)
    go_ret
    exact ⟨ret_i HO.out.symm, rfl⟩
  · have HO := Lib.hid (crcOf_yes (l := s.data.toList) h)
    have hb : 0 ≤ c ∧ c ≤ 65535 := by simpa [inB] using h
    have HB := Lib.hid hb; clear hb
    go_enter Try.func10, Try.ntmps10
    go_wp2_with (first | (go_at_call 22; refine (in_any _ _ _ _).mono ?_; rintro e w' ⟨rfl, rfl⟩) | (go_at_call 23; refine (scrc_any _ _ _ hs HB.out.1 HB.out.2).mono ?_; rintro e w' ⟨rfl, rfl⟩))
    go_ret
    exact ⟨ret_i HO.out.symm, rfl⟩

theorem crc16_any (s : ByteArray) (c : Int) (w : World) (hs : s.size ≤ maxLen) :
    Calls Try.prog 11 #[.string s, .int .i64 c] w fun e w' => e = .returned (.int .i64 (crcOf s.data.toList c)) ∧ Below w.heap.size w w' := by
  have H1 := ints_one w .i64 c 2
  cases h : inB 0 65535 [c]
  · have HO := Lib.hid (crcOf_no (l := s.data.toList) h)
    go_enter Try.func11, Try.ntmps11
    go_wp2_with (go_at_call 24; refine (within_any _ _ _ _ _ H1).mono ?_; rintro e w' ⟨rfl, rfl⟩)
    go_ret
    exact ⟨ret_i HO.out.symm, (Below.refl _ _).alloc (Nat.le_refl _) _⟩
  · have HO := Lib.hid (crcOf_yes (l := s.data.toList) h)
    obtain ⟨c0, c1⟩ : 0 ≤ c ∧ c ≤ 65535 := by simpa [inB] using h
    unfold maxLen at hs
    go_enter Try.func11, Try.ntmps11
    go_wp2_with (go_at_call 24; refine (within_any _ _ _ _ _ H1).mono ?_; rintro e w' ⟨rfl, rfl⟩)
    clear H1
    have hbel : Below w.heap.size w (w.alloc (.cells #[Value.int .i64 c] 2)) := (Below.refl _ _).alloc (Nat.le_refl _) _
    generalize w.alloc (.cells #[Value.int .i64 c] 2) = w1 at *
    have HBEL := Lib.hid hbel; clear hbel
    go_loop [5, 14] (fun a i => ∃ (k : Nat) (x : Int), k ≤ s.size ∧ i = .int .i64 k ∧ a = .int .i64 x ∧ x = crcV (s.data.toList.take k) c) (fun _ i => s.size - (intOf i).toNat)
    case atStart => exact ⟨0, c, Nat.zero_le _, rfl, rfl, rfl⟩
    case round =>
      obtain ⟨k, x, hk, rfl, rfl, hx⟩ := hrel
      obtain ⟨x0, x1⟩ := crcV_bd (s.data.toList.take k) c0 c1
      rw [← hx] at x0 x1
      by_cases hlt : k < s.size
      · obtain ⟨z0, z1⟩ := xor16 x _ x0 x1 (byte_bd s[k]).1 (byte_bd s[k]).2
        have HS := Lib.hid (crcV_snoc s k hlt c)
        have HX := Lib.hid hx
        clear hx
        obtain ⟨bb0, bb1⟩ := byte_bd s[k]
        go_wp2
        go_loop [5, 24] (fun a i => ∃ (j : Nat) (y : Int), j ≤ 8 ∧ i = .int .i64 j ∧ a = .int .i64 y ∧ y = crcIter j (bits .xor .i64 x ((s[k].toNat : Int) * 256))) (fun _ i => 8 - (intOf i).toNat)
        case atStart => exact ⟨0, _, by omega, rfl, rfl, rfl⟩
        case round =>
          obtain ⟨j, y, hj, rfl, rfl, hy⟩ := hrel
          obtain ⟨y0, y1⟩ := crcIter_bd j z0 z1
          rw [← hy] at y0 y1
          have HY := Lib.hid hy
          clear hy
          by_cases hj8 : j < 8
          · have HB : Hid (crcIter (j + 1) (bits .xor .i64 x ((s[k].toNat : Int) * 256)) = crcBit y) := by rw [HY.out]; exact rfl
            by_cases hb : 65535 < y * 2
            · have HV : Hid (crcBit y = bits .xor .i64 (bits .and .i64 (y * 2) 65535) 4129) := by unfold crcBit; rw [if_pos hb]; exact rfl
              go_wp2
              exact ⟨⟨j + 1, _, by omega, by go_num, rfl, by rw [HB.out, HV.out]⟩, by simp only [intOf]; omega⟩
            · have HV : Hid (crcBit y = y * 2) := by unfold crcBit; rw [if_neg hb]; exact rfl
              go_wp2
              exact ⟨⟨j + 1, _, by omega, by go_num, rfl, by rw [HB.out, HV.out]⟩, by simp only [intOf]; omega⟩
          · obtain rfl : j = 8 := by omega
            go_wp2
            go_round
            case rel => exact ⟨k + 1, y, by omega, by go_num, rfl, by rw [HS.out, ← HX.out, HY.out]; rfl⟩
            case measure => simp [intOf]; omega
      · have HX := Lib.hid hx
        clear hx
        go_wp2
        go_ret
        exact ⟨ret_i (by rw [HO.out, HX.out, List.take_of_length_le (by simp; omega)]), HBEL.out⟩
end Go.Proofs.Ytppfgcjeeokomaa
