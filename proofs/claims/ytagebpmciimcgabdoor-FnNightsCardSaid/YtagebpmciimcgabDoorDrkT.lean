/- The model's answers over a season. -/
import Derived.Test.YtagebpmciimcgabDoorSunU
import Derived.Test.YtagebpmciimcgabDoorDrkM
import Derived.LoopTactic
namespace Go.Proofs.YtagebpmciimcgabDoor
open Go.ChangeShapes Go.WideShapes Go.ChangeAt Go.RowKit Pm

theorem sseason_any (lat a c : Int) (w : World) :
    Calls Tryd.prog 65 #[.int .i64 lat, .int .i64 a, .int .i64 c] w fun e w' => e = .returned (.bool (seasonB lat a c)) ∧ w = w' := by
  cases h : askB lat a
  · have HV := Lib.hid (show seasonB lat a c = false by unfold seasonB; rw [h]; rfl)
    have HI := Lib.hid (fun w => h ▸ sask_any lat a w)
    clear h
    go_enter Tryd.func65, Tryd.ntmps65
    go_wp2_with (first
      | (go_at_call 61; refine (HI.out _).mono ?_; rintro e w1 ⟨rfl, rfl⟩))
    go_ret
    exact ⟨retB HV.out.symm, rfl⟩
  · have ha := (askB_out h).2
    obtain ⟨ha0, ha1⟩ := ha
    have HI := Lib.hid (fun w => h ▸ sask_any lat a w)
    cases hc : inB 1 400 [c]
    · have HV := Lib.hid (show seasonB lat a c = false by unfold seasonB; rw [h, hc]; rfl)
      have HC := Lib.hid (fun w => hc ▸ in_any c 1 400 w)
      clear h hc
      go_enter Tryd.func65, Tryd.ntmps65
      go_wp2_with (first
        | (go_at_call 61; refine (HI.out _).mono ?_; rintro e w1 ⟨rfl, rfl⟩)
        | (go_at_call 90; refine (HC.out _).mono ?_; rintro e w1 ⟨rfl, rfl⟩))
      go_ret
      exact ⟨retB HV.out.symm, rfl⟩
    · have hcb : 1 ≤ c ∧ c ≤ 400 := by simpa [inB] using hc
      obtain ⟨hc0, hc1⟩ := hcb
      have HV := (show seasonB lat a c = inB 0 99999 [a + c - 1] by unfold seasonB; rw [h, hc]; rfl)
      have HC := Lib.hid (fun w => hc ▸ in_any c 1 400 w)
      have HD := fun w => sday4_any (a + c - 1) w
      rw [← HV] at HD
      obtain ⟨b, eb⟩ : ∃ b, b = seasonB lat a c := ⟨_, rfl⟩
      rw [← eb] at HD ⊢
      have HD := Lib.hid HD
      clear h hc HV eb
      go_enter Tryd.func65, Tryd.ntmps65
      go_wp2_with (first
        | (go_at_call 61; refine (HI.out _).mono ?_; rintro e w1 ⟨rfl, rfl⟩)
        | (go_at_call 90; refine (HC.out _).mono ?_; rintro e w1 ⟨rfl, rfl⟩)
        | (go_at_call 91; refine (HD.out _).mono ?_; rintro e w1 ⟨rfl, rfl⟩))
      go_ret
      exact ⟨rfl, rfl⟩

theorem ssum_no (lat a c : Int) (w : World) (h : seasonB lat a c = false) :
    Calls Tryd.prog 34 #[.int .i64 lat, .int .i64 a, .int .i64 c] w (RetS2 0 2 w) := by
  have HI := Lib.hid (fun w => h ▸ sseason_any lat a c w)
  clear h
  go_enter Tryd.func34, Tryd.ntmps34
  go_wp2_with (first
    | (go_at_call 65; refine (HI.out _).mono ?_; rintro e w1 ⟨rfl, rfl⟩))
  go_ret2
  exact ⟨rfl, Below.refl _ _⟩
def RetS3 (a b c : Int) (w : World) (e : Ending) (w' : World) : Prop := e = .returned (.tuple #[.int .i64 a, .int .i64 b, .int .i64 c]) ∧ Below w.heap.size w w'
theorem slong_no (lat a c : Int) (w : World) (h : seasonB lat a c = false) :
    Calls Tryd.prog 33 #[.int .i64 lat, .int .i64 a, .int .i64 c] w (RetS3 0 0 2 w) := by
  have HI := Lib.hid (fun w => h ▸ sseason_any lat a c w)
  clear h
  go_enter Tryd.func33, Tryd.ntmps33
  go_wp2_with (first
    | (go_at_call 65; refine (HI.out _).mono ?_; rintro e w1 ⟨rfl, rfl⟩))
  go_returns
  exact ⟨rfl, Below.refl _ _⟩

theorem sdark_f {lat D v : Int} (h : DarkIs lat D v) (l0 : -66 ≤ lat) (l1 : lat ≤ 66) (hD : D ≤ 99999) (w : World) :
    Calls Tryd.prog 64 #[.int .i64 lat, .int .i64 D] w (Ret1 v w) := by
  obtain ⟨n, r, h1, h2, rfl⟩ := h
  exact sdark_any lat D n r w h1 hD l0 l1 h2

set_option maxHeartbeats 1000000 in
theorem ssum_yes (lat a : Int) (n : Nat) (f : Nat → Int) (w : World) (hf : ∀ i : Nat, DarkIs lat (a + i) (f i)) (h : seasonB lat a n = true) :
    Calls Tryd.prog 34 #[.int .i64 lat, .int .i64 a, .int .i64 n] w (RetS2 (sumTo f n) 0 w) := by
  have hs := season_iff.1 h
  obtain ⟨⟨l0, l1⟩, ⟨a0, a1⟩, ⟨c0, c1⟩, hend⟩ := hs
  have HI := Lib.hid (fun w => h ▸ sseason_any lat a n w)
  have HB := Lib.hid (sum_bd (f := f) (fun i => (hf i).bd))
  have HF := Lib.hid hf
  clear h hf
  go_enter Tryd.func34, Tryd.ntmps34
  go_wp2_with (first
    | (go_at_call 65; refine (HI.out _).mono ?_; rintro e w1 ⟨rfl, rfl⟩))
  go_loopw [8, 9] (fun s8 s9 wr => ∃ (k : Nat) (z : Int), s8 = .int .i64 z ∧ s9 = .int .i64 (a + k) ∧ k ≤ n ∧ Hid (z = sumTo f k) ∧ Hid (Below w.heap.size w wr)) (fun _ s9 _ => (a + n - intOf s9).toNat)
  case atStart => exact ⟨0, 0, rfl, by simp, Nat.zero_le _, Lib.hid (sum_zero f).symm, Lib.hid (Below.refl _ _)⟩
  case round =>
    obtain ⟨k, z, rfl, rfl, hk, HZ, HBE⟩ := hrel
    have hzb : 0 ≤ z ∧ z ≤ 1000000 := by
      have := HB.out k
      rw [HZ.out]; omega
    obtain ⟨z0, z1⟩ := hzb
    by_cases hlt : k < n
    · have hfk := HF.out k
      have hvb := hfk.bd
      have HD := Lib.hid (fun w => sdark_f hfk l0 l1 (by omega) w)
      have HN0 := (show z + f k = sumTo f (k + 1) by rw [sum_next, HZ.out])
      obtain ⟨v, ev⟩ : ∃ v, v = f k := ⟨_, rfl⟩
      rw [← ev] at HD hvb HN0
      have HN := Lib.hid HN0
      obtain ⟨v0, v1⟩ := hvb
      clear hfk ev HN0
      go_wp2_with (first
        | (go_at_call 64; refine (HD.out _).mono ?_; rintro e w2 ⟨rfl, hb⟩; have HB2 := Lib.hid (Below.next HBE.out hb); clear hb))
      go_roundw
      case rel => exact ⟨k + 1, z + v, rfl, by go_num, by omega, HN, HB2⟩
      case measure => simp [intOf]; omega
    · obtain rfl : k = n := by omega
      go_wp2
      go_ret2
      exact ⟨retII HZ.out rfl, HBE.out⟩

/-- The first day with the most is returned. -/
def LongS (f : Nat → Int) (a : Int) (k : Nat) (w : World) (e : Ending) (w' : World) : Prop := ∃ d m, BestIs f a k d m ∧ e = .returned (.tuple #[.int .i64 d, .int .i64 m, .int .i64 0]) ∧ Below w.heap.size w w'

set_option maxHeartbeats 1000000 in
theorem slong_yes (lat a : Int) (n : Nat) (f : Nat → Int) (w : World) (hf : ∀ i : Nat, DarkIs lat (a + i) (f i)) (h : seasonB lat a n = true) :
    Calls Tryd.prog 33 #[.int .i64 lat, .int .i64 a, .int .i64 n] w (LongS f a n w) := by
  have hs := season_iff.1 h
  obtain ⟨⟨l0, l1⟩, ⟨a0, a1⟩, ⟨c0, c1⟩, hend⟩ := hs
  have HI := Lib.hid (fun w => h ▸ sseason_any lat a n w)
  have HF := Lib.hid hf
  clear h hf
  go_enter Tryd.func33, Tryd.ntmps33
  go_wp2_with (first
    | (go_at_call 65; refine (HI.out _).mono ?_; rintro e w1 ⟨rfl, rfl⟩))
  go_loopw [9, 10, 11] (fun s9 s10 s11 wr => ∃ (k : Nat) (d m : Int), s9 = .int .i64 d ∧ s10 = .int .i64 m ∧ s11 = .int .i64 (a + k) ∧ k ≤ n ∧ -1 ≤ m ∧ m ≤ 1440 ∧ Hid ((k = 0 ∧ m = -1) ∨ BestIs f a k d m) ∧ Hid (Below w.heap.size w wr)) (fun _ _ s11 _ => (a + n - intOf s11).toNat)
  case atStart => exact ⟨0, a, -1, rfl, rfl, by simp, Nat.zero_le _, by omega, by omega, Lib.hid (.inl ⟨rfl, rfl⟩), Lib.hid (Below.refl _ _)⟩
  case round =>
    obtain ⟨k, d, m, rfl, rfl, rfl, hk, m0, m1, HZ, HBE⟩ := hrel
    by_cases hlt : k < n
    · have hfk := HF.out k
      have hvb := hfk.bd
      have HD := Lib.hid (fun w => sdark_f hfk l0 l1 (by omega) w)
      by_cases cc : m < f k
      · have HN := (show BestIs f a (k + 1) (a + k) (f k) by
          rcases HZ.out with ⟨e0, _⟩ | h2
          · subst e0; exact BestIs.first
          · exact h2.more cc)
        obtain ⟨v, ev⟩ : ∃ v, v = f k := ⟨_, rfl⟩
        rw [← ev] at HD hvb HN cc
        have HN := Lib.hid HN
        obtain ⟨v0, v1⟩ := hvb
        clear hfk ev
        go_wp2_with (first
          | (go_at_call 64; refine (HD.out _).mono ?_; rintro e w2 ⟨rfl, hb⟩; have HB2 := Lib.hid (Below.next HBE.out hb); clear hb))
        go_roundw
        case rel => exact ⟨k + 1, _, _, rfl, rfl, by go_num, by omega, by omega, by omega, Lib.hid (.inr HN.out), HB2⟩
        case measure => simp [intOf]; omega
      · have HN := (show BestIs f a (k + 1) d m by
          rcases HZ.out with ⟨e0, e1⟩ | h2
          · omega
          · exact h2.same cc)
        obtain ⟨v, ev⟩ : ∃ v, v = f k := ⟨_, rfl⟩
        rw [← ev] at HD hvb cc
        have HN := Lib.hid HN
        obtain ⟨v0, v1⟩ := hvb
        clear hfk ev
        go_wp2_with (first
          | (go_at_call 64; refine (HD.out _).mono ?_; rintro e w2 ⟨rfl, hb⟩; have HB2 := Lib.hid (Below.next HBE.out hb); clear hb))
        go_roundw
        case rel => exact ⟨k + 1, _, _, rfl, rfl, by go_num, by omega, by omega, by omega, Lib.hid (.inr HN.out), HB2⟩
        case measure => simp [intOf]; omega
    · obtain rfl : k = n := by omega
      have HF2 := Lib.hid (show BestIs f a k d m by
        rcases HZ.out with ⟨e, _⟩ | h
        · omega
        · exact h)
      go_wp2
      go_returns
      exact ⟨d, m, HF2.out, rfl, HBE.out⟩
end Go.Proofs.YtagebpmciimcgabDoor
