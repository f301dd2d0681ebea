/- The program's visits of the days of a season. -/
import Derived.Test.YtagebpmciimcgabDoorSunV
import Derived.Test.YtagebpmciimcgabDoorDrkM
import Derived.LoopTactic
import Derived.Shelf.Abstract
namespace Go.Proofs.YtagebpmciimcgabDoor
open Go.ChangeShapes Go.WideShapes Go.ChangeAt Go.RowKit Pm

/-- The days are visited in order, or there is none that may be. -/
def EachOk (Inv : Nat → World → Prop) (c : Nat) (e : Ending) (w' : World) : Prop := e = .returned (.int .i64 0) ∧ Inv c w'
def EachBad (Inv : Nat → World → Prop) (e : Ending) (w' : World) : Prop := ∃ k, e = .returned (.int .i64 2) ∧ Inv k w'

theorem each_count (lat a c : Int) (g : Nat) (caps : Array Value) (w : World) (Inv : Nat → World → Prop) (h0 : Inv 0 w)
    (hB : ∀ k W W', Inv k W → Below W.heap.size W W' → Inv k W') (hc : inB 1 400 [c] = false) :
    Calls Tryd.prog 58 #[.int .i64 lat, .int .i64 a, .int .i64 c, .func (.func g) #[] caps] w (EachBad Inv) := by
  have HI := Lib.hid (fun w sv hs => hc ▸ within_any 1 400 sv [c] w hs)
  have H1 := ints_one w .i64 c 2
  have HN := Lib.hid (hB 0 w (w.alloc (.cells #[.int .i64 c] 2)) h0 ((Below.refl _ _).alloc (Nat.le_refl _) _))
  clear h0 hB hc
  go_enter Tryd.func58, Tryd.ntmps58
  go_wp2_with (first
    | (go_at_call 44; refine (HI.out _ _ H1).mono ?_; rintro e w1 ⟨rfl, rfl⟩))
  go_ret
  exact ⟨0, rfl, HN.out⟩

set_option maxRecDepth 100000 in
set_option maxHeartbeats 1000000 in
theorem each_days (lat a : Int) (c : Nat) (g : Nat) (caps : Array Value) (f : Nat → Int) (w : World) (Inv : Nat → World → Prop) (h0 : Inv 0 w)
    (eg : ∀ args w, (callFunc g args).run Tryd.prog w = .ok (.enter g args) w)
    (hB : ∀ k W W', Inv k W → Below W.heap.size W W' → Inv k W') (hS : ∀ k W, Inv k W → SinesAt W)
    (hv : ∀ k W, Inv k W → askB lat (a + k) = true → k < c → Calls Tryd.prog g (#[.int .i64 (a + k), .int .i64 (f k)] ++ caps) W fun e W' => e = .returned (.tuple #[]) ∧ Inv (k + 1) W')
    (hf : 0 ≤ a → ∀ i : Nat, DarkIs lat (a + i) (f i)) (a0 : -9223372036854775808 ≤ a) (a1 : a ≤ 9223372036854775807) (c0 : 1 ≤ c) (c1 : c ≤ 400) :
    Calls Tryd.prog 58 #[.int .i64 lat, .int .i64 a, .int .i64 c, .func (.func g) #[] caps] w
      (fun e w' => (seasonB lat a c = true ∧ EachOk Inv c e w') ∨ (seasonB lat a c = false ∧ EachBad Inv e w')) := by
  have hcin : inB 1 400 [(c : Int)] = true := by simp [inB]; omega
  have HI := Lib.hid (fun w sv hs => hcin ▸ within_any 1 400 sv [(c : Int)] w hs)
  have H1 := ints_one w .i64 (c : Int) 2
  have HN := Lib.hid (hB 0 w (w.alloc (.cells #[.int .i64 c] 2)) h0 ((Below.refl _ _).alloc (Nat.le_refl _) _))
  have HSE := Lib.hid (show (∀ j : Nat, j < c → askB lat (a + j) = true) → seasonB lat a c = true from fun h => by
    have e1 := ask_iff.1 (h 0 (by omega))
    have e2 := ask_iff.1 (h (c - 1) (by omega))
    exact season_iff.2 ⟨e1.1, by omega, by omega, by omega⟩)
  have HSN := Lib.hid (show ∀ j : Nat, j < c → askB lat (a + j) = false → seasonB lat a c = false from fun j hj h => by
    cases hs : seasonB lat a c
    · rfl
    · have e1 := season_iff.1 hs
      have : askB lat (a + j) = true := ask_iff.2 ⟨e1.1, by omega, by omega⟩
      rw [this] at h; cases h)
  have HBB := Lib.hid hB
  have HSS := Lib.hid hS
  have HV := Lib.hid hv
  have HF := Lib.hid hf
  have hci : (c : Int) ≤ 400 := by omega
  have hci1 : 1 ≤ (c : Int) := by omega
  clear h0 hB hS hv hf hcin
  go_enter Tryd.func58, Tryd.ntmps58
  go_wp2_with (first
    | (go_at_call 44; refine (HI.out _ _ H1).mono ?_; rintro e w1 ⟨rfl, hw1⟩; have HN1 := Lib.hid (hw1 ▸ HN.out); clear hw1 H1))
  go_loopw [17] (fun s17 wr => ∃ k : Nat, s17 = .int .i64 k ∧ k ≤ c ∧ Hid (Inv k wr) ∧ Hid (∀ j : Nat, j < k → askB lat (a + j) = true)) (fun s17 _ => c - (intOf s17).toNat)
  case atStart => exact ⟨0, rfl, Nat.zero_le _, HN1, Lib.hid (fun j hj => absurd hj (Nat.not_lt_zero _))⟩
  case round =>
    obtain ⟨k, rfl, hk, HIV, HAL⟩ := hrel
    by_cases hlt : k < c
    · have hkb : -9223372036854775808 ≤ a + k ∧ a + k ≤ 9223372036854775807 := by
        by_cases k0 : k = 0
        · subst k0; omega
        · have := ask_iff.1 (HAL.out 0 (by omega)); omega
      obtain ⟨kb0, kb1⟩ := hkb
      cases hask : askB lat (a + k)
      · have HD := Lib.hid (fun w hS => dark_no lat (a + k) w hS hask)
        have HNO := Lib.hid (HSN.out k hlt hask)
        have HSI := Lib.hid (HSS.out k wr HIV.out)
        clear hask
        go_wp2_with (first
          | (go_at_call 21; refine (HD.out _ HSI.out).mono ?_; rintro e w2 ⟨rfl, hb⟩; have HI2 := Lib.hid (HBB.out k _ _ HIV.out hb); clear hb))
        go_ret
        exact .inr ⟨HNO.out, k, rfl, HI2.out⟩
      · have ha0 : 0 ≤ a + k := (ask_iff.1 hask).2.1
        have ha : 0 ≤ a := by
          by_cases k0 : k = 0
          · subst k0; omega
          · have := ask_iff.1 (HAL.out 0 (by omega)); omega
        have hfk := HF.out ha k
        have hfb := hfk.bd
        have HD := Lib.hid (show ∀ w, SinesAt w → Calls Tryd.prog 21 #[.int .i64 lat, .int .i64 (a + k)] w (Ret2 (f k) 0 w) from fun w hS => by
          obtain ⟨n, r, h1, h2, h3⟩ := hfk
          rw [h3]; exact dark_in lat (a + k) n r w hS hask h1 h2)
        have HVK := Lib.hid (fun W hI => HV.out k W hI hask hlt)
        have HAL2 := Lib.hid (show ∀ j : Nat, j < k + 1 → askB lat (a + j) = true from fun j hj => by
          by_cases e : j = k
          · subst e; exact hask
          · exact HAL.out j (by omega))
        have HSI := Lib.hid (HSS.out k wr HIV.out)
        obtain ⟨v, ev⟩ : ∃ v, v = f k := ⟨_, rfl⟩
        rw [← ev] at HD HVK hfb
        obtain ⟨v0, v1⟩ := hfb
        clear hask hfk ev
        go_wp2_with (first
          | (go_at_call 21; refine (HD.out _ HSI.out).mono ?_; rintro e w2 ⟨rfl, hb⟩; have HI2 := Lib.hid (HBB.out k _ _ HIV.out hb); clear hb)
          | (go_at_fn g; refine (HVK.out _ HI2.out).mono ?_; rintro e w3 ⟨rfl, hi3⟩; have HI3 := Lib.hid hi3; clear hi3))
        go_roundw
        case rel => exact ⟨k + 1, by go_num, by omega, HI3, HAL2⟩
        case measure => simp [intOf]; omega
    · obtain rfl : k = c := by omega
      have HY := Lib.hid (HSE.out HAL.out)
      go_wp2
      go_ret
      exact .inl ⟨HY.out, rfl, HIV.out⟩
end Go.Proofs.YtagebpmciimcgabDoor
