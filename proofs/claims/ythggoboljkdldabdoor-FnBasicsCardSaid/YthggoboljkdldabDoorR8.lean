/- The small functions beside the law of the basics. -/
import Derived.Test.YthggoboljkdldabDoorSrc
namespace Go.Proofs.YthggoboljkdldabDoor
open Go.ChangeShapes Go.WideShapes Go.ChangeAt Go.RowKit Pm

theorem long_no (a0 a1 : Option Addr) (l0 l1 c0 c1 : Nat) (w : World) (h0 : l0 ≤ 1048576) (h1 : l1 ≤ 1048576) :
    Calls Tryd.prog 5 #[.slice a0 l0 c0, .slice a1 l1 c1] w fun e w' => e = .returned (.bool false) ∧ w = w' := by
  have d0 : decide ((1048576 : Int) < (l0 : Int)) = false := by simp; omega
  have d1 : decide ((1048576 : Int) < (l1 : Int)) = false := by simp; omega
  go_enter Tryd.func5, Tryd.ntmps5
  go_wp2
  go_ret
  exact ⟨rfl, rfl⟩
theorem long_yes (a0 a1 : Option Addr) (l0 l1 c0 c1 : Nat) (w : World) (h : 1048576 < l0 ∨ 1048576 < l1) :
    Calls Tryd.prog 5 #[.slice a0 l0 c0, .slice a1 l1 c1] w fun e w' => e = .returned (.bool true) ∧ w = w' := by
  by_cases h0 : 1048576 < l0
  · have d0 : (1048576 : Int) < (l0 : Int) := by omega
    clear h
    go_enter Tryd.func5, Tryd.ntmps5
    go_wp2
    go_ret
    exact ⟨rfl, rfl⟩
  · have d0 : decide ((1048576 : Int) < (l0 : Int)) = false := by simp; omega
    have d1 : (1048576 : Int) < (l1 : Int) := by omega
    clear h h0
    go_enter Tryd.func5, Tryd.ntmps5
    go_wp2
    go_ret
    exact ⟨rfl, rfl⟩

def atV (zs : List Int) (k : Nat) (n : Int) : Int := if k < zs.length then zs.getD k 0 % n else 0
theorem atV_bd {zs : List Int} {k : Nat} {n : Int} (hn : 0 < n) : 0 ≤ atV zs k n ∧ atV zs k n < n := by
  unfold atV
  split
  · exact ⟨Int.emod_nonneg _ (by omega), Int.emod_lt_of_pos _ hn⟩
  · omega

theorem r8at_any (w : World) (sv : Value) (zs : List Int) (k : Nat) (n : Int) (hA : ArgInts .u8 w sv zs) (hz : BytesIn zs) (hl : zs.length ≤ 1048576) (hn : 1 < n) (hn2 : n ≤ 1000) :
    Calls Tryd.prog 25 #[sv, .int .i64 k, .int .i64 n] w fun e w' => e = .returned (.int .i64 (atV zs k n)) ∧ w = w' := by
  by_cases hk : k < zs.length
  · have HV := Lib.hid (show atV zs k n = zs.getD k 0 % n by unfold atV; rw [if_pos hk])
    rcases hA with ⟨rfl, _⟩ | ⟨rfl, rfl⟩ | ⟨b, off, cap, rfl, _, hc⟩
    · simp at hk
    · simp at hk
    · have hcell := hc k hk
      obtain ⟨x0, x1⟩ := hz k hk
      generalize zs.getD k 0 = x at hcell x0 x1 HV
      have hki : (k : Int) < (zs.length : Int) := by omega
      have hkd : decide ((zs.length : Int) ≤ (k : Int)) = false := by simp; omega
      clear hc hz
      go_enter Tryd.func25, Tryd.ntmps25
      go_wp2
      go_ret
      exact ⟨ret_i HV.out.symm, rfl⟩
  · have HV := Lib.hid (show atV zs k n = 0 by unfold atV; rw [if_neg hk])
    obtain ⟨a, c, rfl⟩ := hA.len
    have hki : (zs.length : Int) ≤ (k : Int) := by omega
    clear hA hz
    go_enter Tryd.func25, Tryd.ntmps25
    go_wp2
    go_ret
    exact ⟨ret_i HV.out.symm, rfl⟩

def wideV (zs : List Int) (k : Nat) (n : Int) : Int := (256 * atV zs k 256 + atV zs (k + 1) 256) % n
theorem wideV_bd {zs : List Int} {k : Nat} {n : Int} (hn : 0 < n) : 0 ≤ wideV zs k n ∧ wideV zs k n < n :=
  ⟨Int.emod_nonneg _ (by omega), Int.emod_lt_of_pos _ hn⟩

theorem r8wide_any (w : World) (sv : Value) (zs : List Int) (k : Nat) (n : Int) (hA : ArgInts .u8 w sv zs) (hz : BytesIn zs) (hl : zs.length ≤ 1048576) (hk2 : k ≤ 900) (hn : 1 < n) (hn2 : n ≤ 100000) :
    Calls Tryd.prog 10 #[sv, .int .i64 k, .int .i64 n] w fun e w' => e = .returned (.int .i64 (wideV zs k n)) ∧ w = w' := by
  have H1 := Lib.hid (r8at_any w sv zs k 256 hA hz hl (by omega) (by omega))
  have H2 := Lib.hid (show Calls Tryd.prog 25 #[sv, .int .i64 ((k : Int) + 1), .int .i64 256] w fun e w' => e = .returned (.int .i64 (atV zs (k + 1) 256)) ∧ w = w' from r8at_any w sv zs (k + 1) 256 hA hz hl (by omega) (by omega))
  have HV := Lib.hid (show wideV zs k n = (256 * atV zs k 256 + atV zs (k + 1) 256) % n from rfl)
  obtain ⟨x0, x1⟩ := atV_bd (zs := zs) (k := k) (n := 256) (by omega)
  obtain ⟨y0, y1⟩ := atV_bd (zs := zs) (k := k + 1) (n := 256) (by omega)
  generalize atV zs k 256 = x at H1 HV x0 x1
  generalize atV zs (k + 1) 256 = y at H2 HV y0 y1
  clear hA hz
  go_enter Tryd.func10, Tryd.ntmps10
  go_wp2_with (go_at_call 25; refine H1.out.mono ?_; rintro e w' ⟨rfl, rfl⟩; refine Hid.out ?_)
  refine Lib.hid ?_
  go_wp2_with (go_at_call 25; refine H2.out.mono ?_; rintro e w' ⟨rfl, rfl⟩; refine Hid.out ?_)
  refine Lib.hid ?_
  go_wp2_with (fail)
  go_ret
  exact ⟨ret_i HV.out.symm, rfl⟩

theorem r8abs_any (n : Int) (w : World) (h0 : -1000000000000000000 ≤ n) (h1 : n ≤ 1000000000000000000) :
    Calls Tryd.prog 9 #[.int .i64 n] w fun e w' => e = .returned (.int .i64 (n.natAbs : Int)) ∧ w = w' := by
  have hv := Lib.hid (show (n.natAbs : Int) = max n (-n) by omega)
  go_enter Tryd.func9, Tryd.ntmps9
  go_wp2
  go_ret
  exact ⟨ret_i hv.out.symm, rfl⟩

theorem r8same_any (v1 v2 : Value) (zs : List Int) (w : World) (h1 : IntsAre .i64 w v1 zs) (h2 : IntsAre .i64 w v2 zs) :
    Calls Tryd.prog 16 #[v1, v2] w fun e w' => e = .returned (.bool true) ∧ ∃ n, w' = w.drewN n := by
  have hlen : ∀ sv, IntsAre .i64 w sv zs → ∃ a c, sv = .slice a zs.length c := by
    intro sv h
    rcases h with ⟨rfl, rfl⟩ | ⟨b, off, cap, rfl, _, _⟩
    · exact ⟨none, 0, rfl⟩
    · exact ⟨_, _, rfl⟩
  by_cases h0 : zs = []
  · subst h0
    obtain ⟨a1, c1, rfl⟩ := hlen _ h1
    obtain ⟨a2, c2, rfl⟩ := hlen _ h2
    clear hlen h1 h2
    go_enter Tryd.func16, Tryd.ntmps16
    go_wp2
    go_rounds 1
    go_ret
    exact ⟨rfl, 0, rfl⟩
  · rcases h1 with ⟨_, e⟩ | ⟨b1, o1, c1, rfl, hm, hc1⟩
    · exact absurd e h0
    rcases h2 with ⟨_, e⟩ | ⟨b2, o2, c2, rfl, _, hc2⟩
    · exact absurd e h0
    have HC1 := Lib.hid hc1
    have HC2 := Lib.hid hc2
    clear hlen h0 hc1 hc2
    go_enter Tryd.func16, Tryd.ntmps16
    go_wp2
    go_loopw [5] (fun i wr => ∃ (k m : Nat), k ≤ zs.length ∧ i = .int .i64 k ∧ wr = w.drewN m) (fun i _ => zs.length - (intOf i).toNat)
    case atStart => exact ⟨0, 0, Nat.zero_le _, rfl, rfl⟩
    case round =>
      obtain ⟨k, m, hk, rfl, rfl⟩ := hrel
      by_cases hlt : k < zs.length
      · have c1' := HC1.out k hlt
        have c2' := HC2.out k hlt
        generalize hz : zs.getD k 0 = z at c1' c2'
        clear hz
        have hki : (k : Int) < (zs.length : Int) := by omega
        go_wp2_with (fail)
        go_quiet (fail)
        go_wp2
        go_roundw
        case rel => exact ⟨k + 1, _, by omega, by go_num, rfl⟩
        case measure => simp [intOf]; omega
      · go_wp2
        go_ret
        exact ⟨rfl, _, rfl⟩
end Go.Proofs.YthggoboljkdldabDoor
