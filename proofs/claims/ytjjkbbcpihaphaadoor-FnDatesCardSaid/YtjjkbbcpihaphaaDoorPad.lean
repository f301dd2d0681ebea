/- The program's numbers with zeros in front of them; the texts of dates and times. -/
import Derived.Test.YtjjkbbcpihaphaaDoorLaid
import Derived.Test.YtjjkbbcpihaphaaDoorListS
import Derived.Test.YtjjkbbcpihaphaaDoorKit
import Derived.Test.YtjjkbbcpihaphaaDoorDtxM
import Derived.Shelf.Strings.Repeat
namespace Go.Proofs.YtjjkbbcpihaphaaDoor
open Go.ChangeShapes Go.WideShapes Go.ChangeAt Go.RowKit Pm

theorem gint_any (x : Int) (sv : Value) (zs : List Int) (w : World) (hs : IntsAre .i64 w sv zs) :
    Calls Tryd.prog 61 #[.int .i64 x, sv] w fun e w' => e = .returned (.int .i64 (greatestOf x zs)) ∧ w = w' := by
  rcases hs with ⟨rfl, rfl⟩ | ⟨b, off, cap, rfl, hm, hc⟩
  · go_enter Tryd.func61, Tryd.ntmps61
    go_wp2
    go_rounds 1
    go_ret
    exact ⟨rfl, rfl⟩
  · have HC := Lib.hid hc; clear hc
    go_enter Tryd.func61, Tryd.ntmps61
    go_wp2
    go_loop [0, 9] (fun f i => ∃ k : Nat, k ≤ zs.length ∧ i = .int .i64 k ∧ f = .int .i64 (greatestOf x (zs.take k))) (fun _ i => zs.length - (intOf i).toNat)
    case atStart => exact ⟨0, Nat.zero_le _, rfl, rfl⟩
    case round =>
      obtain ⟨k, hk, rfl, rfl⟩ := hrel
      by_cases hlt : k < zs.length
      · have hcell := HC.out k hlt
        have hsn := greatestOf_snoc x (zs.take k) (zs.getD k 0)
        rw [← take_succ_getD zs k hlt] at hsn
        have HS := Lib.hid hsn; clear hsn
        generalize hz : zs.getD k 0 = z at hcell HS
        clear hz
        by_cases hz : greatestOf x (zs.take k) < z
        · have H2 : Hid (greatestOf x (zs.take (k + 1)) = z) := by rw [HS.out, if_pos hz]; exact rfl
          clear HS
          go_wp2
          go_round
          case rel => exact ⟨k + 1, by omega, by go_num, ret_v H2.out.symm⟩
          case measure => simp [intOf]; omega
        · have H2 : Hid (greatestOf x (zs.take (k + 1)) = greatestOf x (zs.take k)) := by rw [HS.out, if_neg hz]; exact rfl
          clear HS
          go_wp2
          go_round
          case rel => exact ⟨k + 1, by omega, by go_num, ret_v H2.out.symm⟩
          case measure => simp [intOf]; omega
      · go_wp2
        go_ret
        exact ⟨ret_i (by rw [List.take_of_length_le (by omega)]), rfl⟩

theorem repeatL_zero (c : Nat) : Lib.repeatL [48] c = List.replicate c 48 := by
  have := Lib.repeatL_replicate 48 1 c
  simpa using this
theorem repeat_any (c : Nat) (w : World) (hc : c ≤ 1000) :
    Calls Tryd.prog 60 #[.string ⟨#[48]⟩, .int .i64 c] w fun e w' => e = .returned (.string ⟨(List.replicate c 48).toArray⟩) ∧ Below w.heap.size w w' := by
  have h := Any.strings_Repeat Tryd.lays105 Tryd.Builder_Extra_105 ⟨#[48]⟩ c w (by omega) (by show 1 * c ≤ _; omega)
  have e : Lib.repeatL (⟨#[48]⟩ : ByteArray).data.toList c = List.replicate c 48 := repeatL_zero c
  rw [e] at h
  exact h

theorem pad_size (n : Int) (h0 : 0 ≤ n) (h1 : n ≤ 9999) : (Lib.itoa n).length ≤ 21 := Lib.itoa_length_le n (by omega) (by omega)

theorem padded_any (n : Int) (k : Nat) (w : World) (hp : PowAt w) (h0 : 0 ≤ n) (h1 : n ≤ 9999) (hk : k ≤ 4) :
    Calls Tryd.prog 40 #[.int .i64 n, .int .i64 k] w fun e w' => e = .returned (.string ⟨(pad k n).toArray⟩) ∧ Below w.heap.size w w' := by
  have hl := pad_size n h0 h1
  have HD := fun w hp => decimal_any n w (by omega) (by omega) hp
  obtain ⟨s, hs⟩ : ∃ s : ByteArray, s = ⟨(Lib.itoa n).toArray⟩ := ⟨_, rfl⟩
  rw [← hs] at HD
  have hsz : s.size = (Lib.itoa n).length := by rw [hs]; simp [ByteArray.size]
  have hs21 : s.size ≤ 21 := by omega
  have hg : Pm.greatestOf 0 [(k : Int) - s.size] = ((k - s.size : Nat) : Int) := by unfold Pm.greatestOf Pm.greatestOf; split <;> omega
  have HG := Lib.hid (fun w sv hs => hg ▸ gint_any 0 sv [(k : Int) - s.size] w hs)
  have HR := Lib.hid (fun w => repeat_any (k - s.size) w (by omega))
  obtain ⟨z, hz⟩ : ∃ z : ByteArray, z = ⟨(List.replicate (k - s.size) 48).toArray⟩ := ⟨_, rfl⟩
  rw [← hz] at HR
  have hzs : z.size = k - s.size := by
    rw [hz]
    show (List.replicate (k - s.size) (48 : UInt8)).toArray.size = _
    rw [List.size_toArray, List.length_replicate]
  have hsl : s.data.toList = Lib.itoa n := by rw [hs]
  have HV := Lib.hid (show z ++ s = ⟨(pad k n).toArray⟩ by
    refine WideShapes.bytes_inj ?_
    rw [ByteArray.data_append, Array.toList_append, hsl, hz]
    unfold pad
    rw [← hsz])
  have k1 := fun w => run_string_add_sum (P := Tryd.prog) (w := w) z s (by omega)
  have HP := Lib.hid hp
  have HD := Lib.hid HD
  have hki : (k : Int) ≤ 4 := by omega
  have hsi : (s.size : Int) ≤ 21 := by omega
  obtain ⟨c, hc⟩ : ∃ c, c = k - s.size := ⟨_, rfl⟩
  rw [← hc] at HG HR
  clear hsl hs hz hzs hg hsz hl hp hc hk hs21
  go_enter Tryd.func40, Tryd.ntmps40
  go_wp2_with (first
    | (go_at_call 59; refine (HD.out _ HP.out).mono ?_; rintro e w1 ⟨rfl, hb⟩; have ac := Lib.hid hb; have H1 := ints_one w1 .i64 ((k : Int) - s.size) 3; clear hb)
    | (go_at_call 61; refine (HG.out _ _ H1).mono ?_; rintro e w2 ⟨rfl, hw2⟩; have ac2 := Lib.hid (show Below w.heap.size w w2 by rw [← hw2]; exact ac.out.alloc ac.out.size _); clear H1 hw2)
    | (go_at_call 60; refine (HR.out _).mono ?_; rintro e w3 ⟨rfl, hb⟩; have ac3 := Lib.hid (Below.next ac2.out hb); clear hb))
  go_ret
  exact ⟨retS HV.out, ac3.out⟩
end Go.Proofs.YtjjkbbcpihaphaaDoor
