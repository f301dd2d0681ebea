/- Texts that can be sent: the model's test. -/
import Derived.Test.YtgnajfdcbpfdjaaDoorSplX
import Derived.Test.YtgnajfdcbpfdjaaDoorPhsN
namespace Go.Proofs.YtgnajfdcbpfdjaaDoor
open Go.ChangeShapes Go.WideShapes Go.ChangeAt Go.RowKit Pm

theorem retBs {a b : Bool} (h : a = b) : Ending.returned (.bool a) = .returned (.bool b) := by rw [h]
theorem byte_at (s : ByteArray) (k : Nat) (h : k < s.size) : s.data.toList[k]'(by simpa using h) = s[k] := by
  rw [Array.getElem_toList]; rfl
theorem sz_toList (s : ByteArray) : s.data.toList.length = s.size := by simp
set_option maxRecDepth 100000 in
set_option maxHeartbeats 2000000 in
theorem stext_any (s : ByteArray) (w : World) (hs : s.size ≤ 1048576) :
    Calls Tryd.prog 35 #[.string s] w fun e w' => e = .returned (.bool (sntB s)) ∧ w = w' := by
  have hl := sz_toList s
  have HB := Lib.hid (fun k h => byte_at s k h)
  have HSB := Lib.hid (show sntB s = (okF true s.data.toList && decide (s.size ≤ 12)) from rfl)
  obtain ⟨l, hll⟩ : ∃ l, l = s.data.toList := ⟨_, rfl⟩
  have HB2 := Lib.hid (show ∀ k (h : k < s.size) (h2 : k < l.length), l[k] = s[k] from fun k h h2 => by subst hll; exact HB.out k h)
  rw [← hll] at hl HSB
  have HL := Lib.hid hl
  clear hll HB hl
  go_enter Tryd.func35, Tryd.ntmps35
  go_wp2_with (fail)
  go_loopw [3] (fun i wr => ∃ (k : Nat) (p : Bool), k ≤ s.size ∧ i = .int .i64 k ∧ (k = 0 → p = true) ∧ (∀ j (h : j < s.size), k = j + 1 → p = (s[j] == 32)) ∧ okF true l = okF p (l.drop k) ∧ (k = s.size → 0 < k → p = false) ∧ w = wr) (fun i _ => s.size - (intOf i).toNat)
  case atStart => exact ⟨0, true, Nat.zero_le _, rfl, fun _ => rfl, fun j h e => by omega, rfl, fun _ h => by omega, rfl⟩
  case round =>
    obtain ⟨k, p, hk, rfl, hp0, hpj, hok, hend, rfl⟩ := hrel
    by_cases hlt : k < s.size
    · have hkn : (k : Int) < (s.size : Int) := by omega
      have hst := okF_drop p l k (by rw [HL.out]; exact hlt)
      rw [HB2.out k hlt, ← hok] at hst
      have HST := Lib.hid hst
      have hnx : ∀ j (h : j < s.size), k + 1 = j + 1 → (s[k] == 32) = (s[j] == 32) := fun j h e => by
        obtain rfl : k = j := by omega
        rfl
      have HNX := Lib.hid hnx
      clear hst hnx
      by_cases hx : s[k] = 32
      · have hxb : (((s[k]).toNat : Int) == 32) = true := by rw [hx]; rfl
        have HX := Lib.hid hx
        have HS1 := Lib.hid (HST.out.trans (by rw [if_pos hx]))
        by_cases hk0 : k = 0
        · have hkb : ((k : Int) == 0) = true := by rw [hk0]; rfl
          have HZ := Lib.hid (show sntB s = false by rw [HSB.out, HS1.out, hp0 hk0]; rfl)
          clear hp0 hpj hok hend hx hk0
          go_wp2_with (fail)
          go_ret
          exact ⟨retBs HZ.out.symm, rfl⟩
        · have hkb : ((k : Int) == 0) = false := by rw [beq_eq_false_iff_ne]; omega
          obtain ⟨j, rfl⟩ : ∃ j, k = j + 1 := ⟨k - 1, by omega⟩
          by_cases hke : j + 1 + 1 = s.size
          · have hkeb : (((j + 1 : Nat) : Int) == (s.size : Int) - 1) = true := by rw [beq_iff_eq]; omega
            have HZ := Lib.hid (show sntB s = false by rw [HSB.out, HS1.out, okF_nil _ _ _ (by rw [HL.out]; omega)]; cases p <;> rfl)
            clear hp0 hpj hok hend hx
            go_wp2_with (fail)
            go_ret
            exact ⟨retBs HZ.out.symm, rfl⟩
          · have hkeb : (((j : Int) + 1) == (s.size : Int) - 1) = false := by rw [beq_eq_false_iff_ne]; omega
            have hkb2 : (((j : Int) + 1) == 0) = false := by rw [beq_eq_false_iff_ne]; omega
            have hjs : j < s.size := by omega
            have hji : (j : Int) < (s.size : Int) := by omega
            by_cases hy : s[j] = 32
            · have hyb : (((s[j]).toNat : Int) == 32) = true := by rw [hy]; rfl
              have hpt : p = true := by rw [hpj j hjs rfl, hy]; rfl
              have HZ := Lib.hid (show sntB s = false by rw [HSB.out, HS1.out, hpt]; rfl)
              clear hp0 hpj hok hend hx hy hpt
              go_wp2_with (fail)
              go_ret
              exact ⟨retBs HZ.out.symm, rfl⟩
            · have hyb : (((s[j]).toNat : Int) == 32) = false := by
                rw [beq_eq_false_iff_ne]
                exact fun q => hy (UInt8.toNat_inj.1 (by have e : (32 : UInt8).toNat = 32 := rfl
                                                         omega))
              have hpt : p = false := by rw [hpj j hjs rfl]; exact beq_eq_false_iff_ne.2 hy
              have HS2 := Lib.hid (show okF true l = okF true (l.drop (j + 1 + 1)) by rw [HS1.out, hpt]; rfl)
              have HKE := Lib.hid hke
              clear hp0 hpj hok hend hx hy hpt hke
              go_wp2_with (fail)
              refine ⟨⟨j + 1 + 1, true, by omega, rfl, fun e => by omega, fun j2 h2 e => by rw [← HNX.out j2 h2 e, HX.out]; rfl, HS2.out, fun e _ => absurd e HKE.out, by first | rfl | trivial⟩, ?_⟩
              show s.size - ((j : Int) + 1 + 1).toNat < s.size - (((j + 1 : Nat) : Int)).toNat
              omega
      · have hxb : (((s[k]).toNat : Int) == 32) = false := by
          rw [beq_eq_false_iff_ne]
          exact fun q => hx (UInt8.toNat_inj.1 (by have e : (32 : UInt8).toNat = 32 := rfl
                                                   omega))
        have HX := Lib.hid hx
        have HS1 := Lib.hid (show okF true l = (capB s[k] && okF false (l.drop (k + 1))) by rw [HST.out, if_neg hx])
        by_cases hlo : (s[k]).toNat < 65
        · have hli : ((s[k]).toNat : Int) < 65 := by omega
          have HZ := Lib.hid (show sntB s = false by
            rw [HSB.out, HS1.out]; unfold capB
            rw [decide_eq_false (by omega : ¬ 65 ≤ (s[k]).toNat)]; rfl)
          clear hp0 hpj hok hend hx hlo
          go_wp2_with (fail)
          go_ret
          exact ⟨retBs HZ.out.symm, rfl⟩
        · have hli : ¬ ((s[k]).toNat : Int) < 65 := by omega
          by_cases hhi : 90 < (s[k]).toNat
          · have hui : (90 : Int) < ((s[k]).toNat : Int) := by omega
            have HZ := Lib.hid (show sntB s = false by
              rw [HSB.out, HS1.out]; unfold capB
              rw [decide_eq_false (by omega : ¬ (s[k]).toNat ≤ 90), Bool.and_false]; rfl)
            clear hp0 hpj hok hend hx hlo hhi
            go_wp2_with (fail)
            go_ret
            exact ⟨retBs HZ.out.symm, rfl⟩
          · have hui : ¬ (90 : Int) < ((s[k]).toNat : Int) := by omega
            have HS2 := Lib.hid (show okF true l = okF false (l.drop (k + 1)) by
              rw [HS1.out]; unfold capB
              rw [decide_eq_true (by omega : 65 ≤ (s[k]).toNat), decide_eq_true (by omega : (s[k]).toNat ≤ 90)]; rfl)
            clear hp0 hpj hok hend hx hlo hhi
            go_wp2_with (fail)
            refine ⟨⟨k + 1, false, by omega, rfl, fun e => by omega, fun j2 h2 e => by rw [← HNX.out j2 h2 e]; exact (beq_eq_false_iff_ne.2 HX.out).symm, HS2.out, by first | exact fun _ _ => rfl | trivial, by first | rfl | trivial⟩, ?_⟩
            show s.size - ((k : Int) + 1).toNat < s.size - ((k : Int)).toNat
            omega
    · have hkn : ¬ (k : Int) < (s.size : Int) := by omega
      have hke : k = s.size := by omega
      have hok2 : okF true l = !p := by rw [hok, okF_nil _ _ _ (by rw [HL.out]; omega)]
      by_cases h0 : s.size = 0
      · have h0i : ¬ (1 : Int) ≤ (s.size : Int) := by omega
        have HZ := Lib.hid (show sntB s = false by rw [HSB.out, hok2, hp0 (by omega)]; rfl)
        clear hp0 hpj hok hend hok2 hke h0
        go_wp2_with (fail)
        go_ret
        exact ⟨retBs HZ.out.symm, rfl⟩
      · have h0i : (1 : Int) ≤ (s.size : Int) := by omega
        by_cases h12 : s.size ≤ 12
        · have h12i : (s.size : Int) ≤ 12 := by omega
          have HZ := Lib.hid (show sntB s = true by rw [HSB.out, hok2, hend hke (by omega), decide_eq_true h12]; rfl)
          clear hp0 hpj hok hend hok2 hke h0 h12
          go_wp2_with (fail)
          go_ret
          exact ⟨retBs HZ.out.symm, rfl⟩
        · have h12i : ¬ (s.size : Int) ≤ 12 := by omega
          have HZ := Lib.hid (show sntB s = false by rw [HSB.out, decide_eq_false h12, Bool.and_false])
          clear hp0 hpj hok hend hok2 hke h0 h12
          go_wp2_with (fail)
          go_ret
          exact ⟨retBs HZ.out.symm, rfl⟩
end Go.Proofs.YtgnajfdcbpfdjaaDoor
