/- The letters whose signs are such as asked for: the program's. -/
import Derived.Test.YtgnajfdcbpfdjaaDoorMorX
import Derived.LoopTactic
import Derived.Shelf.Abstract
import Derived.Deep.MidRow
namespace Go.Proofs.YtgnajfdcbpfdjaaDoor
open Go.ChangeShapes Go.WideShapes Go.ChangeAt Go.RowKit Pm
/-- The table of signs as values. -/
def sigV : List Value := morseL.map fun l => .string ⟨l.toArray⟩
theorem sigV_at {r : Nat} (h : r < 26) : sigV[r]? = some (.string (morseS r)) := by
  unfold sigV
  rw [List.getElem?_map, List.getElem?_eq_getElem (by rw [morse_len]; exact h)]
  unfold morseS morseB
  rw [List.getD_eq_getElem?_getD, List.getElem?_eq_getElem (by rw [morse_len]; exact h)]
  rfl
theorem sigV_range {w : World} (h : SignsAt w) : w.rangeAt 0 0 sigV := by
  intro j v hv
  have hj : j < 26 := by
    have := (List.getElem?_eq_some_iff.1 hv).1
    unfold sigV at this
    rwa [List.length_map, morse_len] at this
  rw [sigV_at hj] at hv
  rw [Nat.zero_add, h j hj]; exact hv
theorem index_sig (A : Array Value) (k : Nat) (s : ByteArray) (hk : k < 26) (h : A[k]? = some (.string s)) (w : World) : (Instr.index 96 (.agg A) (.int .i64 k)).run Tryd.prog w = .ok (.string s) w := by
  have hz : ∀ w, (sizeOf 9).run Tryd.prog w = .ok 1 w := Tryd.sizeOf9
  have ha : ∀ w, (isAgg 9).run Tryd.prog w = .ok false w := Tryd.isAgg9
  simp [Instr.index, run_underlying Tryd.underlying96, asIntOf, go_sem, hz, ha, h]
  intro h2
  omega
/-- The letters below a number that a test picks, in bytes. -/
def pickL (p : Nat → Bool) : Nat → List UInt8
  | 0 => []
  | k + 1 => if p k then pickL p k ++ [UInt8.ofNat (65 + k)] else pickL p k
theorem pickL_len (p : Nat → Bool) : ∀ k, (pickL p k).length ≤ k
  | 0 => Nat.le_refl _
  | k + 1 => by
    have := pickL_len p k
    unfold pickL
    split
    · rw [List.length_append, List.length_singleton]; omega
    · omega
theorem enc_cap : ∀ r : Nat, r < 26 → Utf8.encode (65 + r) = capS r := by
  intro r hr
  have h : ∀ r : Nat, r < 26 → (Utf8.encode (65 + r)).data = (capS r).data := by decide +kernel
  exact WideShapes.bytes_inj (by rw [h r hr])
theorem letterat_any (i : Nat) (h : i < 26) (w : World) :
    Calls Tryd.prog 70 #[.int .i64 i] w fun e w' => e = .returned (.string (capS i)) ∧ w = w' := by
  have HV := Lib.hid (enc_cap i h)
  have h1 : (i : Int) < 26 := by omega
  go_enter Tryd.func70, Tryd.ntmps70
  go_wp2
  go_ret
  exact ⟨retS (by rw [← HV.out]), rfl⟩

set_option maxRecDepth 100000 in
set_option maxHeartbeats 1000000 in
theorem lwith_any (g : Nat) (cb : Array Value) (p : Nat → Bool) (w : World) (eg : ∀ args w, (callFunc g args).run Tryd.prog w = .ok (.enter g args) w) (hT : SignsAt w)
    (hf : ∀ (W : World) (r : Nat), r < 26 → Below w.heap.size w W → Calls Tryd.prog g (#[.string (morseS r)] ++ cb) W fun e w' => e = .returned (.bool (p r)) ∧ Below W.heap.size W w') :
    Calls Tryd.prog 41 #[.func (.func g) #[] cb] w fun e w' => e = .returned (.string ⟨(pickL p 26).toArray⟩) ∧ Below w.heap.size w w' := by
  have HR := Lib.hid (sigV_range hT)
  have HF := Lib.hid hf
  clear hf hT
  go_enter Tryd.func41, Tryd.ntmps41
  go_wp2_with (refine wpList_load_mid rfl 96 _ rfl 0 0 rfl sigV _ HR.out Tryd.underlying96 rfl (by kernel_rfl) ?_)
  obtain ⟨A, hA⟩ : ∃ A, A = sigV.toArray := ⟨_, rfl⟩
  rw [← hA]
  have HA := Lib.hid hA
  clear hA
  go_loopw [3, 7] (fun o i wr => ∃ (k : Nat), k ≤ 26 ∧ i = .int .i64 k ∧ o = .string ⟨(pickL p k).toArray⟩ ∧ Below w.heap.size w wr) (fun _ i _ => 26 - (intOf i).toNat)
  case atStart => exact ⟨0, Nat.zero_le _, rfl, rfl, Below.refl _ _⟩
  case round =>
    obtain ⟨k, hk, rfl, rfl, hbel⟩ := hrel
    have HB := Lib.hid hbel
    clear hbel
    by_cases hlt : k < 26
    · have hc := HF.out wr k hlt HB.out
      have hix : A[k]? = some (.string (morseS k)) := by rw [HA.out, List.getElem?_toArray]; exact sigV_at hlt
      have hle := pickL_len p k
      have HP := Lib.hid (show pickL p (k + 1) = if p k then pickL p k ++ [UInt8.ofNat (65 + k)] else pickL p k from rfl)
      have HL := Lib.hid (letterat_any k hlt)
      obtain ⟨s, hs⟩ : ∃ s, s = morseS k := ⟨_, rfl⟩
      rw [← hs] at hc hix
      have hidx := fun w => index_sig A k s hlt hix w
      clear hix
      obtain ⟨l, hl⟩ : ∃ l, l = pickL p k := ⟨_, rfl⟩
      rw [← hl] at hle HP
      have HE := Lib.hid (show (⟨l.toArray⟩ : ByteArray) ++ capS k = ⟨(l ++ [UInt8.ofNat (65 + k)]).toArray⟩ from WideShapes.bytes_inj (by simp [capS, ByteArray.data_append]))
      obtain ⟨u, hu⟩ : ∃ u, u = (⟨l.toArray⟩ : ByteArray) := ⟨_, rfl⟩
      have hz : u.size ≤ 26 := by rw [hu]; simp [ByteArray.size]; omega
      rw [← hl, ← hu]
      rw [← hu] at HE
      have k1 := fun w => run_string_add_sum (P := Tryd.prog) (w := w) u (capS k) (by have : (capS k).size = 1 := rfl; omega)
      cases hp : p k
      · rw [hp] at hc HP
        have HC := Lib.hid hc
        have HU := Lib.hid hu
        clear hc hp hs hl hu k1
        go_wp2_with (go_at_fn g; refine HC.out.mono ?_; rintro e w1 ⟨rfl, hb⟩; have HB1 := Lib.hid (Below.next HB.out hb); clear hb)
        go_roundw
        case rel => exact ⟨k + 1, by omega, by go_num, by rw [HP.out, HU.out]; rfl, HB1.out⟩
        case measure => simp [intOf]; omega
      · rw [hp] at hc HP
        have HC := Lib.hid hc
        clear hc hp hs hl hu
        go_wp2_with (first
          | (go_at_fn g; refine HC.out.mono ?_; rintro e w1 ⟨rfl, hb⟩; have HB1 := Lib.hid (Below.next HB.out hb); clear hb)
          | (go_at_call 70; refine (HL.out _).mono ?_; rintro e w2 ⟨rfl, rfl⟩))
        go_roundw
        case rel => exact ⟨k + 1, by omega, by go_num, by rw [HE.out, HP.out]; rfl, HB1.out⟩
        case measure => simp [intOf]; omega
    · obtain rfl : k = 26 := by omega
      obtain ⟨u, hu⟩ : ∃ u, u = (⟨(pickL p 26).toArray⟩ : ByteArray) := ⟨_, rfl⟩
      rw [← hu]
      have HU := Lib.hid hu
      clear hu
      go_wp2
      go_ret
      exact ⟨retS HU.out, HB.out⟩
end Go.Proofs.YtgnajfdcbpfdjaaDoor
