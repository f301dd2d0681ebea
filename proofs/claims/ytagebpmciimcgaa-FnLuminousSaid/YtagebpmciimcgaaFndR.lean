/- The small functions beside the general laws: a number of an input's bytes. -/
import Derived.Test.YtagebpmciimcgaaDrwM
import Derived.Test.YtagebpmciimcgaaCalI
namespace Go.Proofs.Ytagebpmciimcgaa
open Go.ChangeShapes Go.WideShapes Go.ChangeAt Go.RowKit Pm

def atV (zs : List Int) (k : Nat) (n : Int) : Int := if k < zs.length then zs.getD k 0 % n else 0
theorem atV_bd {zs : List Int} {k : Nat} {n : Int} (hn : 0 < n) : 0 ≤ atV zs k n ∧ atV zs k n < n := by
  unfold atV
  split
  · exact ⟨Int.emod_nonneg _ (by omega), Int.emod_lt_of_pos _ hn⟩
  · omega

theorem r8at_any (w : World) (sv : Value) (zs : List Int) (k : Nat) (n : Int) (hA : ArgIn .u8 w sv zs) (hz : BytesAre zs) (hl : zs.length ≤ 1048576) (hn : 1 < n) (hn2 : n ≤ 1000) :
    Calls Try.prog 17 #[sv, .int .i64 k, .int .i64 n] w fun e w' => e = .returned (.int .i64 (atV zs k n)) ∧ w = w' := by
  by_cases hk : k < zs.length
  · have HV := Lib.hid (show atV zs k n = zs.getD k 0 % n by unfold atV; rw [if_pos hk])
    rcases hA with ⟨rfl, _⟩ | ⟨rfl, rfl⟩ | ⟨b, off, cap, rfl, _, hc⟩
    · simp at hk
    · simp at hk
    · have hcell := hc k hk
      obtain ⟨x0, x1⟩ := hz k hk
      generalize zs.getD k 0 = x at hcell x0 x1 HV
      have hki : (k : Int) < (zs.length : Int) := by omega
      have hkd : decide ((zs.length : Int) ≤ (k : Int)) = false := by simp; omega
      clear hc hz
      go_enter Try.func17, Try.ntmps17
      go_wp2
      go_ret
      exact ⟨ret_i HV.out.symm, rfl⟩
  · have HV := Lib.hid (show atV zs k n = 0 by unfold atV; rw [if_neg hk])
    obtain ⟨a, c, rfl⟩ := hA.len
    have hki : (zs.length : Int) ≤ (k : Int) := by omega
    clear hA hz
    go_enter Try.func17, Try.ntmps17
    go_wp2
    go_ret
    exact ⟨ret_i HV.out.symm, rfl⟩

def wideV (zs : List Int) (k : Nat) (n : Int) : Int := (256 * atV zs k 256 + atV zs (k + 1) 256) % n
theorem wideV_bd {zs : List Int} {k : Nat} {n : Int} (hn : 0 < n) : 0 ≤ wideV zs k n ∧ wideV zs k n < n :=
  ⟨Int.emod_nonneg _ (by omega), Int.emod_lt_of_pos _ hn⟩

theorem r8wide_any (w : World) (sv : Value) (zs : List Int) (k : Nat) (n : Int) (hA : ArgIn .u8 w sv zs) (hz : BytesAre zs) (hl : zs.length ≤ 1048576) (hk2 : k ≤ 900) (hn : 1 < n) (hn2 : n ≤ 100000) :
    Calls Try.prog 14 #[sv, .int .i64 k, .int .i64 n] w fun e w' => e = .returned (.int .i64 (wideV zs k n)) ∧ w = w' := by
  have H1 := Lib.hid (r8at_any w sv zs k 256 hA hz hl (by omega) (by omega))
  have H2 := Lib.hid (show Calls Try.prog 17 #[sv, .int .i64 ((k : Int) + 1), .int .i64 256] w fun e w' => e = .returned (.int .i64 (atV zs (k + 1) 256)) ∧ w = w' from r8at_any w sv zs (k + 1) 256 hA hz hl (by omega) (by omega))
  have HV := Lib.hid (show wideV zs k n = (256 * atV zs k 256 + atV zs (k + 1) 256) % n from rfl)
  obtain ⟨x0, x1⟩ := atV_bd (zs := zs) (k := k) (n := 256) (by omega)
  obtain ⟨y0, y1⟩ := atV_bd (zs := zs) (k := k + 1) (n := 256) (by omega)
  generalize atV zs k 256 = x at H1 HV x0 x1
  generalize atV zs (k + 1) 256 = y at H2 HV y0 y1
  clear hA hz
  go_enter Try.func14, Try.ntmps14
  go_wp2_with (go_at_call 17; refine H1.out.mono ?_; rintro e w' ⟨rfl, rfl⟩; refine Hid.out ?_)
  refine Lib.hid ?_
  go_wp2_with (go_at_call 17; refine H2.out.mono ?_; rintro e w' ⟨rfl, rfl⟩; refine Hid.out ?_)
  refine Lib.hid ?_
  go_wp2_with (fail)
  go_ret
  exact ⟨ret_i HV.out.symm, rfl⟩

end Go.Proofs.Ytagebpmciimcgaa
