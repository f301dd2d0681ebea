/- How many units a letter takes: the model's and the program's. -/
import Derived.Test.YtgnajfdcbpfdjaaDoorMorX
import Derived.Laws.RangeString
import Derived.LoopTactic
namespace Go.Proofs.YtgnajfdcbpfdjaaDoor
open Go.ChangeShapes Go.WideShapes Go.ChangeAt Go.RowKit Pm

/-- The units of a sign; of signs. -/
def unB (b : UInt8) : Int := if b = 45 then 3 else 1
def uS : List UInt8 → Int
  | [] => 0
  | b :: l => unB b + uS l
theorem uS_snoc (l : List UInt8) (b : UInt8) : uS (l ++ [b]) = uS l + unB b := by
  induction l with
  | nil => simp [uS]
  | cons c l ih => simp only [List.cons_append, uS, ih]; omega
theorem uS_take {l : List UInt8} {k : Nat} (h : k < l.length) : uS (l.take (k + 1)) = uS (l.take k) + unB l[k] := by
  rw [List.take_succ_eq_append_getElem h, uS_snoc]
theorem unB_bd (b : UInt8) : 1 ≤ unB b ∧ unB b ≤ 3 := by unfold unB; split <;> omega
theorem uS_bd : ∀ l : List UInt8, 0 ≤ uS l ∧ uS l ≤ 3 * l.length
  | [] => by simp [uS]
  | b :: l => by
    have := uS_bd l
    have := unB_bd b
    simp only [uS, List.length_cons]
    omega
/-- The units of a letter. -/
def untV (r : Nat) : Int := (morseB r).length - 1 + uS (morseB r)

theorem units_any (b : UInt8) (hb : b = 46 ∨ b = 45) (w : World) :
    Calls Tryd.prog 46 #[.int .i32 (b.toNat : Int)] w fun e w' => e = .returned (.int .i64 (unB b)) ∧ w = w' := by
  rcases hb with rfl | rfl
  · have HV := Lib.hid (show unB 46 = 1 from rfl)
    have h : ((46 : UInt8).toNat : Int) = 46 := rfl
    rw [h]
    go_enter Tryd.func46, Tryd.ntmps46
    go_wp2
    go_ret
    exact ⟨ret_i HV.out.symm, rfl⟩
  · have HV := Lib.hid (show unB 45 = 3 from rfl)
    have h : ((45 : UInt8).toNat : Int) = 45 := rfl
    rw [h]
    go_enter Tryd.func46, Tryd.ntmps46
    go_wp2
    go_ret
    exact ⟨ret_i HV.out.symm, rfl⟩
set_option maxHeartbeats 1000000 in
theorem length_cap (s : ByteArray) (r : Nat) (hr : r < 26) (hs : capN s = some r) (w : World) (hT : SignsAt w) :
    Calls Tryd.prog 21 #[.string s] w fun e w' => e = .returned (.tuple #[.int .i64 (untV r), .int .i64 0]) ∧ Below w.heap.size w w' := by
  obtain ⟨f1, f2, f3⟩ := morse_facts r hr
  have HM := Lib.hid (show Calls Tryd.prog 18 #[.string s] w fun e w' => e = .returned (.tuple #[.string (morseS r), .int .i64 0]) ∧ Below w.heap.size w w' by
    have h := morseof_any s w hT
    unfold signsV morC at h
    rw [hs] at h
    exact h)
  have HV := Lib.hid (show untV r = (morseB r).length - 1 + uS (morseB r) from rfl)
  have hsz : (morseS r).size = (morseB r).length := morseS_size r
  obtain ⟨u, hu⟩ : ∃ u, u = morseS r := ⟨_, rfl⟩
  obtain ⟨l, hl⟩ : ∃ l, l = morseB r := ⟨_, rfl⟩
  rw [← hl] at f1 f2 f3 HV hsz
  rw [← hu] at HM hsz
  have HAT := Lib.hid (show ∀ k (h : k < l.length) (h2 : k < u.size), u[k] = l[k] by subst hu hl; exact fun k h _ => rfl)
  have HF := Lib.hid f3
  clear hs hl f3 hu hT
  go_enter Tryd.func21, Tryd.ntmps21
  go_wp2_with (go_at_call 18; refine HM.out.mono ?_; rintro e w1 ⟨rfl, hb⟩; have HB := Lib.hid hb; clear hb)
  go_loopw [6] (fun n wr => ∃ (k : Nat) (x : Int), k ≤ u.size ∧ wr = w1.iter u k ∧ n = .int .i64 x ∧ x = u.size - 1 + uS (l.take k) ∧ 0 ≤ x ∧ x ≤ 100) (fun _ wr => u.size - wr.iterPos w1.heap.size)
  case atStart => exact ⟨0, _, Nat.zero_le _, rfl, rfl, by simp [uS]; omega, by omega, by omega⟩
  case round =>
    obtain ⟨k, x, hk, rfl, rfl, hx, x0, x1⟩ := hrel
    have HX := Lib.hid hx
    clear hx
    by_cases hlt : k < u.size
    · have hlk : k < l.length := by omega
      have HA := HAT.out k hlk hlt
      have HS := Lib.hid (uS_take hlk)
      have hf : l[k] = 46 ∨ l[k] = 45 := by
        have := List.all_eq_true.1 HF.out l[k] (List.getElem_mem hlk)
        simpa using this
      have hnx := fun ty => run_next_ascii (P := Tryd.prog) w1 u k ty hlt (by rw [HA]; rcases hf with h | h <;> rw [h] <;> decide)
      have HUN := Lib.hid (fun w => units_any l[k] hf w)
      rw [HA] at hnx
      have hub := unB_bd l[k]
      obtain ⟨b, hb⟩ : ∃ b, b = l[k] := ⟨_, rfl⟩
      rw [← hb] at hnx HUN HS hub
      obtain ⟨y, hy⟩ : ∃ y, y = unB b := ⟨_, rfl⟩
      rw [← hy] at HUN HS hub
      obtain ⟨y0, y1⟩ := hub
      clear HA hf hb hy
      go_wp2_with (go_at_call 46; refine (HUN.out _).mono ?_; rintro e w2 ⟨rfl, rfl⟩)
      go_roundw
      case rel => exact ⟨k + 1, _, by omega, rfl, rfl, by have := HX.out; have := HS.out; omega, by omega, by have := HX.out; have := HS.out; have := uS_bd (l.take (k + 1)); have : ((l.take (k + 1)).length : Int) ≤ 4 := (by simp; omega); omega⟩
      case measure => simp; omega
    · have hnx := fun ty => run_next_end (P := Tryd.prog) w1 u k ty hlt
      have HE := Lib.hid (show untV r = x by
        rw [HV.out, HX.out, List.take_of_length_le (by omega)]; omega)
      go_wp2
      go_ret2
      exact ⟨retII HE.out.symm rfl, HB.out.alloc HB.out.size _⟩
/-- A letter's units and a code. -/
def lenV (s : ByteArray) : Int := match capN s with | some r => untV r | none => 0
theorem length_any (s : ByteArray) (w : World) (hT : SignsAt w) :
    Calls Tryd.prog 21 #[.string s] w fun e w' => e = .returned (.tuple #[.int .i64 (lenV s), .int .i64 (morC s)]) ∧ Below w.heap.size w w' := by
  cases hs : capN s with
  | some r =>
    have h := length_cap s r (capN_some hs).2 hs w hT
    have h1 : lenV s = untV r := by unfold lenV; rw [hs]
    have h2 : morC s = 0 := by unfold morC; rw [hs]; rfl
    rw [h1, h2]; exact h
  | none =>
    have HL := Lib.hid (show lenV s = 0 by unfold lenV; rw [hs])
    have HC := Lib.hid (show morC s = 1 by unfold morC; rw [hs]; rfl)
    have HM := Lib.hid (show Calls Tryd.prog 18 #[.string s] w fun e w' => e = .returned (.tuple #[.string ⟨#[]⟩, .int .i64 1]) ∧ Below w.heap.size w w' by
      have h := morseof_any s w hT
      unfold signsV morC at h
      rw [hs] at h
      exact h)
    clear hs hT
    go_enter Tryd.func21, Tryd.ntmps21
    go_wp2_with (go_at_call 18; refine HM.out.mono ?_; rintro e w1 ⟨rfl, hb⟩; have HB := Lib.hid hb; clear hb)
    go_ret2
    exact ⟨retII HL.out.symm HC.out.symm, HB.out⟩
end Go.Proofs.YtgnajfdcbpfdjaaDoor
