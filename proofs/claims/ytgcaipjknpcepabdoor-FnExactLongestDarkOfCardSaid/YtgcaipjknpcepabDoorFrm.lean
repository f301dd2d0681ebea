/- A picture from another time on. -/
import Derived.Test.YtgcaipjknpcepabDoorPicO
import Derived.Test.YtgcaipjknpcepabDoorTen
import Derived.Deep.QuietTactic
import Derived.BigQuiet
import Derived.Lib.ConvBytes
namespace Go.Proofs.YtgcaipjknpcepabDoor
open Go.ChangeShapes Go.WideShapes Go.ChangeAt Go.RowKit Pm

theorem modE (t : Int) (n : Nat) (h1 : 1 ≤ n) (h2 : n ≤ 1048576) : (wrap64 (t.tmod n + n)).tmod n = t % n := by
  have hb1 := Int.tmod_lt_of_pos t (show (0 : Int) < n by omega)
  have hb2 := Int.lt_tmod_of_pos t (show (0 : Int) < n by omega)
  rw [IntWalk.wrap64_in _ ⟨by omega, by omega⟩, Int.tmod_eq_emod_of_nonneg (by omega), Int.add_emod_right]
  have h := Int.mul_tdiv_add_tmod t n
  have e : t.tmod n = t - n * t.tdiv n := by omega
  rw [e, Int.sub_mul_emod_self_left]
/-- The place of a time in a picture of n tenths. -/
def plc (t : Int) (n : Nat) : Nat := (t % n).toNat
theorem plc_eq (t : Int) (n : Nat) (h1 : 1 ≤ n) : (plc t n : Int) = t % n := by
  unfold plc
  have := Int.emod_nonneg t (show (n : Int) ≠ 0 by omega)
  omega
theorem plc_lt (t : Int) (n : Nat) (h1 : 1 ≤ n) : plc t n < n := by
  have := plc_eq t n h1
  have := Int.emod_lt_of_pos t (show (0 : Int) < n by omega)
  omega
theorem smod_any (t : Int) (n : Nat) (w : World) (hp : 1 ≤ n) (hq : n ≤ 600) :
    Calls Tryd.prog 24 #[.int .i64 t, .int .i64 n] w fun e w' => e = .returned (.int .i64 (plc t n)) ∧ w = w' := by
  have HM := Lib.hid ((modE t n hp (by omega)).trans (plc_eq t n hp).symm)
  go_enter Tryd.func24, Tryd.ntmps24
  go_wp2
  go_ret
  exact ⟨ret_i HM.out, rfl⟩
/-- A list that is turned. -/
def rotL (T : List UInt8) (b : Nat) : List UInt8 := T.drop b ++ T.take b
theorem rotL_len (T : List UInt8) (b : Nat) : (rotL T b).length = T.length := by unfold rotL; rw [List.length_append, List.length_drop, List.length_take]; omega
theorem pic_size (T : List UInt8) : (⟨T.toArray⟩ : ByteArray).size = T.length := by simp [ByteArray.size]
theorem ext_eq (T : List UInt8) (a b : Nat) : (⟨T.toArray⟩ : ByteArray).extract a b = ⟨((T.drop a).take (b - a)).toArray⟩ := by
  refine WideShapes.bytes_inj ?_
  have := Lib.extract_toList ⟨T.toArray⟩ a b
  rw [ByteArray.toList_eq] at this
  simp
theorem rot_ext (T : List UInt8) (b : Nat) : (⟨T.toArray⟩ : ByteArray).extract b (⟨T.toArray⟩ : ByteArray).size ++ (⟨T.toArray⟩ : ByteArray).extract 0 b = ⟨(rotL T b).toArray⟩ := by
  rw [ext_eq, ext_eq, pic_size]
  refine WideShapes.bytes_inj ?_
  unfold rotL
  rw [List.take_of_length_le (by rw [List.length_drop]; omega)]
  simp [ByteArray.data_append]
set_option maxHeartbeats 1000000 in
theorem from_any (T : List UInt8) (t : Int) (w : World) (hp : 1 ≤ T.length) (hq : T.length ≤ 600) :
    Calls Tryd.prog 28 #[.string ⟨T.toArray⟩, .int .i64 t] w fun e w' => e = .returned (.string ⟨(rotL T (plc t T.length)).toArray⟩) ∧ ∃ n, w' = w.drewN n := by
  have HR := Lib.hid (rot_ext T (plc t T.length))
  have hz := pic_size T
  obtain ⟨s, hs⟩ : ∃ s, s = (⟨T.toArray⟩ : ByteArray) := ⟨_, rfl⟩
  rw [← hs] at HR hz ⊢
  have hs1 : 1 ≤ s.size := by omega
  have hs2 : s.size ≤ 600 := by omega
  have hm := (modE t s.size hs1 (by omega)).trans (plc_eq t s.size hs1).symm
  have hb := plc_lt t s.size hs1
  rw [← hz] at HR ⊢
  obtain ⟨b, hbb⟩ : ∃ b, b = plc t s.size := ⟨_, rfl⟩
  rw [← hbb] at hm hb HR ⊢
  have k1 := fun w => run_string_add_sum (P := Tryd.prog) (w := w) (s.extract b s.size) (s.extract 0 b) (by rw [ByteArray.size_extract, ByteArray.size_extract]; omega)
  clear hs hz hbb hp hq
  go_enter Tryd.func28, Tryd.ntmps28
  go_wp2_with (fail)
  go_quiet (fail)
  go_wp2
  go_ret
  exact ⟨retS HR.out, _, rfl⟩
end Go.Proofs.YtgcaipjknpcepabDoor
