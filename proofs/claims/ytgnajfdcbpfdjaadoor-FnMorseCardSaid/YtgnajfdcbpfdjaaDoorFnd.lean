/- The letter with some signs: the model's and the program's. -/
import Derived.Test.YtgnajfdcbpfdjaaDoorLwi
import Derived.Lib.ConvBytes
namespace Go.Proofs.YtgnajfdcbpfdjaaDoor
open Go.ChangeShapes Go.WideShapes Go.ChangeAt Go.RowKit Pm

theorem str_eq_list (s : ByteArray) (l : List UInt8) : (s.toList == l) = (s.data.toList == l) := by rw [ByteArray.toList_eq]
/-- The letter with some signs; else nothing. -/
def findV (t : ByteArray) : ByteArray := match findN t with | some r => capS r | none => ⟨#[]⟩
/-- Are the signs of a letter these? -/
def isB (t : ByteArray) (r : Nat) : Bool := morseB r == t.data.toList
theorem pick_none (p : Nat → Bool) : ∀ k, (∀ r, r < k → p r = false) → pickL p k = []
  | 0, _ => rfl
  | k + 1, h => by
    unfold pickL
    rw [h k (by omega), pick_none p k (fun r hr => h r (by omega))]; rfl
theorem pick_one (p : Nat → Bool) (r : Nat) (hp : p r = true) : ∀ k, (∀ q, q < k → p q = true → q = r) → r < k → pickL p k = [UInt8.ofNat (65 + r)]
  | 0, _, h => by omega
  | k + 1, h, hr => by
    unfold pickL
    by_cases e : k = r
    · subst e
      rw [hp, pick_none p k (fun q hq => by
        cases hpq : p q
        · rfl
        · have := h q (by omega) hpq; omega)]
      rfl
    · have hk : p k = false := by
        cases hpk : p k
        · rfl
        · exact absurd (h k (by omega) hpk) e
      rw [hk]
      exact pick_one p r hp k (fun q hq => h q (by omega)) (by omega)
theorem pick_is (t : ByteArray) : (⟨(pickL (isB t) 26).toArray⟩ : ByteArray) = findV t := by
  unfold findV
  cases h : findN t with
  | none =>
    rw [pick_none _ 26 (fun r hr => by
      unfold isB
      rw [beq_eq_false_iff_ne]; exact findN_none h r hr)]
  | some r =>
    obtain ⟨hr, hm⟩ := findN_some h
    rw [pick_one _ r (by unfold isB; rw [hm]; simp) 26 (fun q hq hp => by
      unfold isB at hp
      rw [beq_iff_eq] at hp
      exact morse_inj q hq r hr (hp.trans hm.symm)) hr]
    rfl
theorem findV_empty {t : ByteArray} : (findV t).toList.isEmpty = (findN t).isNone := by
  unfold findV
  cases h : findN t with
  | none => rw [ByteArray.toList_eq]; rfl
  | some r => simp only; unfold capS; rw [ByteArray.toList_eq]; rfl

theorem lclo_any (t : ByteArray) (b r : Nat) (w : World) (hc : w.cell? ⟨b, 0, none⟩ = some (.string t)) :
    Calls Tryd.prog 42 #[.string (morseS r), .pointer (some ⟨b, 0, none⟩)] w fun e w' => e = .returned (.bool (isB t r)) ∧ Below w.heap.size w w' := by
  have HV := Lib.hid (show ((morseS r).toList == t.toList) = isB t r by unfold isB; rw [morseS_list, ByteArray.toList_eq])
  obtain ⟨s, hs⟩ : ∃ s, s = morseS r := ⟨_, rfl⟩
  rw [← hs] at HV ⊢
  clear hs
  go_enter Tryd.func42, Tryd.ntmps42
  go_wp2
  go_ret
  exact ⟨retB HV.out, Below.refl _ _⟩
/-- A code: 0 where there is a letter. -/
def finC (t : ByteArray) : Int := if (findN t).isSome then 0 else 3
theorem letterof_any (t : ByteArray) (w : World) (hT : SignsAt w) :
    Calls Tryd.prog 19 #[.string t] w fun e w' => e = .returned (.tuple #[.string (findV t), .int .i64 (finC t)]) ∧ Below w.heap.size w w' := by
  have eg : ∀ args w, (callFunc 42 args).run Tryd.prog w = .ok (.enter 42 args) w := enters_of Tryd.func42 (by kernel_rfl) rfl
  have HW := Lib.hid (show ∀ W : World, Below w.heap.size w W → W.heap.size = w.heap.size + 1 → W.cell? ⟨w.heap.size, 0, none⟩ = some (.string t) →
      Calls Tryd.prog 41 #[.func (.func 42) #[] #[.pointer (some ⟨w.heap.size, 0, none⟩)]] W fun e w' => e = .returned (.string (findV t)) ∧ Below W.heap.size W w' from fun W hb hz hcell => by
    have h := lwith_any 42 #[.pointer (some ⟨w.heap.size, 0, none⟩)] (isB t) W eg (hT.below hb) (fun W' r _ hb' => lclo_any t w.heap.size r W' (cell_below hcell hb'))
    rwa [pick_is] at h)
  have he := findV_empty (t := t)
  clear hT
  cases hf : findN t with
  | none =>
    have HC := Lib.hid (show finC t = 3 by unfold finC; rw [hf]; rfl)
    rw [hf] at he
    obtain ⟨u, hu⟩ : ∃ u, u = findV t := ⟨_, rfl⟩
    have HE := Lib.hid (show u = ⟨#[]⟩ by rw [hu]; unfold findV; rw [hf])
    rw [← hu] at HW he ⊢
    have he2 : u.toList.isEmpty = true := he
    clear he hf hu
    go_enter Tryd.func19, Tryd.ntmps19
    go_wp2_with (go_at_call 41; refine (HW.out _ (by go_grown) (by simp) (by go_cell)).mono ?_; rintro e w1 ⟨rfl, hb⟩; have HB := Lib.hid (Below.next (a := w) (by go_grown) hb); clear hb)
    go_ret2
    exact ⟨retSI HE.out.symm HC.out.symm, HB.out⟩
  | some r =>
    have HC := Lib.hid (show finC t = 0 by unfold finC; rw [hf]; rfl)
    rw [hf] at he
    obtain ⟨u, hu⟩ : ∃ u, u = findV t := ⟨_, rfl⟩
    rw [← hu] at HW he ⊢
    have he2 : u.toList.isEmpty = false := he
    clear he hf hu
    go_enter Tryd.func19, Tryd.ntmps19
    go_wp2_with (go_at_call 41; refine (HW.out _ (by go_grown) (by simp) (by go_cell)).mono ?_; rintro e w1 ⟨rfl, hb⟩; have HB := Lib.hid (Below.next (a := w) (by go_grown) hb); clear hb)
    go_ret2
    exact ⟨retSI rfl HC.out.symm, HB.out⟩
theorem conv_one (W : World) (c : UInt8) (z : Int) (hz : z = (c.toNat : Int)) :
    (convert 36 9 (.slice (some ⟨W.heap.size, 0, none⟩) 1 1)).run Tryd.prog (W.alloc (.cells #[Value.int .u8 z] 5)) = .ok (.string ⟨#[c]⟩) (W.alloc (.cells #[Value.int .u8 z] 5)) := by
  subst hz
  exact run_convert_bytes_back (P := Tryd.prog) (W.alloc (.cells #[Value.int .u8 (c.toNat : Int)] 5)) 36 9 5 ⟨W.heap.size, 0, none⟩ 1 [c] Tryd.underlying36 Tryd.underlying5 Tryd.underlying9 (fun j hj => by
    obtain rfl : j = 0 := by simpa using hj
    simp [Addr.add])
set_option maxRecDepth 100000 in
set_option maxHeartbeats 1000000 in
theorem sfind_any (t : ByteArray) (w : World) :
    Calls Tryd.prog 34 #[.string t] w fun e w' => e = .returned (.string (findV t)) ∧ Below w.heap.size w w' := by
  go_enter Tryd.func34, Tryd.ntmps34
  go_wp2_with (fail)
  go_loopw [3] (fun c wr => ∃ (k : Nat), k ≤ 26 ∧ c = .int .u8 (65 + (k : Int)) ∧ (∀ r, r < k → isB t r = false) ∧ Below w.heap.size w wr) (fun c _ => 91 - (intOf c).toNat)
  case atStart => exact ⟨0, Nat.zero_le _, rfl, fun r hr => by omega, Below.refl _ _⟩
  case round =>
    obtain ⟨k, hk, rfl, hno, hbel⟩ := hrel
    have HB := Lib.hid hbel
    have HNO := Lib.hid hno
    clear hbel hno
    by_cases hlt : k < 26
    · have hkn : (k : Int) < 26 := by omega
      have HM := Lib.hid (fun w => scode_any k hlt w)
      have HV := Lib.hid (show ((morseS k).toList == t.toList) = isB t k by unfold isB; rw [morseS_list, ByteArray.toList_eq])
      obtain ⟨s, hs⟩ : ∃ s, s = morseS k := ⟨_, rfl⟩
      rw [← hs] at HM HV
      clear hs
      cases hb : isB t k
      · have hq : (s.toList == t.toList) = false := HV.out.trans hb
        have HQ := Lib.hid hb
        clear hb
        go_wp2_with (go_at_call 63; refine (HM.out _).mono ?_; rintro e w1 ⟨rfl, hb⟩; have HB1 := Lib.hid (Below.next HB.out hb); clear hb)
        go_roundw
        case rel => exact ⟨k + 1, by omega, by go_num, fun r hr => by
          by_cases e : r < k
          · exact HNO.out r e
          · obtain rfl : r = k := by omega
            exact HQ.out, HB1.out⟩
        case measure => simp [intOf]; omega
      · have hq : (s.toList == t.toList) = true := HV.out.trans hb
        have HR := Lib.hid (show findV t = capS k by
          unfold findV
          rw [findN_at hlt (by unfold isB at hb; exact beq_iff_eq.1 hb)])
        clear hb
        obtain ⟨c, hc⟩ : ∃ c, c = UInt8.ofNat (65 + k) := ⟨_, rfl⟩
        have hcv := fun (W : World) => conv_one W c (65 + (k : Int)) (by rw [hc, UInt8.toNat_ofNat']; omega)
        have HR := Lib.hid (show findV t = ⟨#[c]⟩ by rw [HR.out, hc]; rfl)
        clear hc
        go_wp2_with (go_at_call 63; refine (HM.out _).mono ?_; rintro e w1 ⟨rfl, hb⟩; have HB1 := Lib.hid (Below.next HB.out hb); clear hb)
        go_ret
        exact ⟨retS HR.out.symm, HB1.out.alloc HB1.out.size _⟩
    · obtain rfl : k = 26 := by omega
      have HR := Lib.hid (show findV t = ⟨#[]⟩ by
        unfold findV
        cases e : findN t with
        | none => rfl
        | some r =>
          obtain ⟨hr, hm⟩ := findN_some e
          have := HNO.out r hr
          unfold isB at this
          rw [hm] at this
          simp at this)
      go_wp2
      go_ret
      exact ⟨retS HR.out.symm, HB.out⟩
end Go.Proofs.YtgnajfdcbpfdjaaDoor
