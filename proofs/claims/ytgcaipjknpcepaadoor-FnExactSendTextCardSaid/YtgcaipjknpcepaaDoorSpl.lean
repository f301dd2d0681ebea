/- The spelling of a text: the model's and the program's. -/
import Derived.Test.YtgcaipjknpcepaaDoorSplM
namespace Go.Proofs.YtgcaipjknpcepaaDoor
open Go.ChangeShapes Go.WideShapes Go.ChangeAt Go.RowKit Pm

theorem cat_bytes (A B : List UInt8) : (⟨A.toArray⟩ : ByteArray) ++ (⟨B.toArray⟩ : ByteArray) = ⟨(A ++ B).toArray⟩ := by
  refine WideShapes.bytes_inj ?_
  simp [ByteArray.data_append]
theorem size_mk (A : List UInt8) : (⟨A.toArray⟩ : ByteArray).size = A.length := by simp [ByteArray.size]
set_option maxRecDepth 100000 in
set_option maxHeartbeats 2000000 in
theorem sspell_any (s : ByteArray) (w : World) (hs : s.size ≤ 1048576) :
    Calls Tryd.prog 30 #[.string s] w fun e w' => e = .returned (.tuple #[.string (splV s), .int .i64 (splC s)]) ∧ Below w.heap.size w w' := by
  have HT := Lib.hid (stext_any s w hs)
  cases hb : sntB s
  · have HV := Lib.hid (show splV s = ⟨#[]⟩ by unfold splV; rw [hb]; rfl)
    have HC := Lib.hid (show splC s = 1 by unfold splC; rw [hb]; rfl)
    rw [hb] at HT
    clear hb
    go_enter Tryd.func30, Tryd.ntmps30
    go_wp2_with (go_at_call 50; refine HT.out.mono ?_; rintro e w1 ⟨rfl, rfl⟩)
    go_ret2
    exact ⟨retSI HV.out.symm HC.out.symm, Below.refl _ _⟩
  · have hS := sent_out hb
    have HV := Lib.hid (show splV s = ⟨(spL s.data.toList).toArray⟩ by unfold splV; rw [hb]; rfl)
    have HC := Lib.hid (show splC s = 0 by unfold splC; rw [hb]; rfl)
    have hs12 := hS.most
    have HS := Lib.hid hS
    rw [hb] at HT
    clear hb hS
    go_enter Tryd.func30, Tryd.ntmps30
    go_wp2_with (go_at_call 50; refine HT.out.mono ?_; rintro e w1 ⟨rfl, rfl⟩)
    go_loopw [4, 5] (fun o i wr => ∃ (k : Nat), k ≤ s.size ∧ i = .int .i64 k ∧ o = .string ⟨(spL (s.data.toList.take k)).toArray⟩ ∧ Below w.heap.size w wr) (fun _ i _ => s.size - (intOf i).toNat)
    case atStart => exact ⟨0, Nat.zero_le _, rfl, rfl, Below.refl _ _⟩
    case round =>
      obtain ⟨k, hk, rfl, rfl, hbel⟩ := hrel
      have HB := Lib.hid hbel
      clear hbel
      by_cases hlt : k < s.size
      · have hkn : (k : Int) < (s.size : Int) := by omega
        have hll : k < s.data.toList.length := by simpa using hlt
        have hbyte := HS.out.byte k hlt
        have hul : (spL (s.data.toList.take k)).length ≤ 60 := by
          have h1 := spL_len (l := s.data.toList.take k) (fun x hx => by
            obtain ⟨j, hj, rfl⟩ := List.getElem_of_mem (List.mem_of_mem_take hx)
            rw [byte_at s j (by simpa using hj)]
            exact HS.out.byte j (by simpa using hj))
          rw [List.length_take] at h1
          omega
        have htk : ∀ h0 : 0 < k, spL (s.data.toList.take (k + 1)) = spL (s.data.toList.take k) ++ (32 :: partB (s[k])) := fun h0 => by
          rw [spL_take _ k hll h0, byte_at s k hlt]
        have ht0 : k = 0 → spL (s.data.toList.take (k + 1)) = partB (s[k]) := fun h0 => by
          subst h0
          rw [spL_one _ hll, byte_at s 0 hlt]
        obtain ⟨U, hU⟩ : ∃ U, U = spL (s.data.toList.take k) := ⟨_, rfl⟩
        rw [← hU] at hul htk
        rw [← hU]
        have hU0 : k = 0 → U = [] := fun h0 => by rw [hU, h0]; rfl
        have hz := size_mk U
        obtain ⟨u, hu⟩ : ∃ u, u = (⟨U.toArray⟩ : ByteArray) := ⟨_, rfl⟩
        rw [← hu] at hz ⊢
        have HU := Lib.hid hu
        by_cases hx : s[k] = 32
        · have hxb : (((s[k]).toNat : Int) == 32) = true := by rw [hx]; rfl
          have hk0 : 0 < k := by
            rcases Nat.eq_zero_or_pos k with q | q
            · subst q; exact absurd hx (HS.out.head hlt)
            · exact q
          have HTK := Lib.hid (htk hk0)
          have HX := Lib.hid hx
          have k1 := fun w => run_string_add_sum (P := Tryd.prog) (w := w) u ⟨#[32, 47]⟩ (by show u.size + 2 ≤ _; omega)
          clear htk ht0 hU0 hu hU hx hbyte
          go_wp2_with (fail)
          refine ⟨⟨k + 1, by omega, rfl, congrArg Value.string (by rw [HU.out, HTK.out, HX.out]; exact cat_bytes U [32, 47]), by first | exact HB.out | exact HB.out.drew⟩, ?_⟩
          show s.size - ((k : Int) + 1).toNat < s.size - ((k : Int)).toNat
          omega
        · have hxb : (((s[k]).toNat : Int) == 32) = false := by
            rw [beq_eq_false_iff_ne]
            exact fun q => hx (UInt8.toNat_inj.1 (by have e : (32 : UInt8).toNat = 32 := rfl
                                                     omega))
          obtain ⟨r, hr, hbr⟩ := cap_num (hbyte.resolve_left hx)
          have hpb : partB (s[k]) = morseB r := by unfold partB; rw [if_neg hx, hbr, Nat.add_sub_cancel_left]
          rw [hpb] at htk ht0
          have hml := (morse_facts r hr).2.1
          have hmz := morseS_size r
          have HCD := Lib.hid (fun w => scode_any r hr w)
          rw [show (65 : Int) + (r : Int) = ((s[k]).toNat : Int) by rw [hbr]; omega] at HCD
          have HMS := Lib.hid (show morseS r = ⟨(morseB r).toArray⟩ from rfl)
          obtain ⟨m, hm⟩ : ∃ m, m = morseS r := ⟨_, rfl⟩
          rw [← hm] at hmz HCD HMS
          have hmz4 : m.size ≤ 4 := by omega
          by_cases hk0 : 0 < k
          · have HTK := Lib.hid (htk hk0)
            have k1 := fun w => run_string_add_sum (P := Tryd.prog) (w := w) u ⟨#[32]⟩ (by show u.size + 1 ≤ _; omega)
            have hv1 : (u ++ (⟨#[32]⟩ : ByteArray)).size = u.size + 1 := ByteArray.size_append
            obtain ⟨v, hv⟩ : ∃ v, v = u ++ (⟨#[32]⟩ : ByteArray) := ⟨_, rfl⟩
            rw [← hv] at k1 hv1
            have k2 := fun w => run_string_add_sum (P := Tryd.prog) (w := w) v m (by omega)
            have HVV := Lib.hid hv
            clear htk ht0 hU0 hu hU hx hbyte hm hv hpb hbr hmz hml
            go_wp2_with (go_at_call 40; refine (HCD.out _).mono ?_; rintro e w3 ⟨rfl, hb⟩; have HB3 := Lib.hid (Below.next (by first | exact HB.out | exact HB.out.drew) hb); clear hb)
            refine ⟨⟨k + 1, by omega, rfl, congrArg Value.string (by rw [HVV.out, HU.out, HTK.out, HMS.out, show (⟨#[32]⟩ : ByteArray) = ⟨[32].toArray⟩ from rfl, cat_bytes, cat_bytes, List.append_assoc]; rfl), by first | exact HB3.out | exact HB3.out.drew⟩, ?_⟩
            show s.size - ((k : Int) + 1).toNat < s.size - ((k : Int)).toNat
            omega
          · have HTK := Lib.hid (ht0 (by omega))
            have HU0 := Lib.hid (hU0 (by omega))
            have k2 := fun w => run_string_add_sum (P := Tryd.prog) (w := w) u m (by omega)
            clear htk ht0 hU0 hu hU hx hbyte hm hpb hbr hmz hml
            go_wp2_with (go_at_call 40; refine (HCD.out _).mono ?_; rintro e w3 ⟨rfl, hb⟩; have HB3 := Lib.hid (Below.next HB.out hb); clear hb)
            refine ⟨⟨k + 1, by omega, rfl, congrArg Value.string (by rw [HU.out, HU0.out, HTK.out, HMS.out, cat_bytes]; rfl), by first | exact HB3.out | exact HB3.out.drew⟩, ?_⟩
            show s.size - ((k : Int) + 1).toNat < s.size - ((k : Int)).toNat
            omega
      · have hkn : ¬ (k : Int) < (s.size : Int) := by omega
        go_wp2_with (fail)
        go_ret2
        exact ⟨retSI (by rw [HV.out, List.take_of_length_le (by simp; omega)]) HC.out.symm, HB.out⟩
end Go.Proofs.YtgcaipjknpcepaaDoor
