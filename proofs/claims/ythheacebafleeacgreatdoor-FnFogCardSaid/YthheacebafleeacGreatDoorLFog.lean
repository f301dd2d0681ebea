/- The law of fog signals. -/
import Derived.Test.YthheacebafleeacGreatDoorFfgW
import Derived.Test.YthheacebafleeacGreatDoorFogA
namespace Go.Proofs.YthheacebafleeacGreatDoor
open Go.ChangeShapes Go.WideShapes Go.ChangeAt Go.RowKit Pm

set_option maxRecDepth 100000 in
theorem fog_law (a0 : Option Addr) (len0 cap0 : Nat) (a1 : Option Addr) (len1 cap1 : Nat) (z0 z1 : List Int) (w : World)
    (h0 : ArgIn .u8 w (.slice a0 len0 cap0) z0) (e0 : z0.length = len0) (b0 : BytesAre z0) (h1 : ArgIn .u8 w (.slice a1 len1 cap1) z1) (e1 : z1.length = len1) (b1 : BytesAre z1)
    (hL : laidMetH Tryz.prog Rows.fnFogRow.laid w) (hsh : w.ShapedOpen Tryz.prog) :
    Calls Tryz.prog 3 #[.slice a0 len0 cap0, .slice a1 len1 cap1] w fun e w' => e = .returned (.bool true) ∧ Below w.heap.size w w' := by
  rw [MakeChecks.laidMetH_plain _ _ _ (by kernel_rfl)] at hL
  have hF := fogs_in hL (by kernel_rfl)
  obtain ⟨ea, ep, eq, hE⟩ := errs_in hL (by kernel_rfl) (by kernel_rfl)
  have hS := snds_in hL (by kernel_rfl)
  have hB : RdBase ea ep eq w := ⟨hF, hE, pow_of hL, len_of hsh, len7_of hsh, range_of hL.tail.tail.tail.tail, syn_of hL.tail.tail.tail.tail.tail⟩
  clear hL hsh hF hE
  have H0 := fun w => flong_is a0 len0 cap0 w
  have H1 := fun w => flong_is a1 len1 cap1 w
  by_cases k0 : (1048576 : Int) < (len0 : Int)
  · simp only [decide_eq_true k0] at H0
    have HL0 := Lib.hid H0
    clear H0 H1 h0 h1 hB hS
    go_enter Tryz.func3, Tryz.ntmps3
    go_wp2_with (go_at_call 4; refine (HL0.out _).mono ?_; rintro e w' ⟨rfl, rfl⟩)
    go_ret
    exact ⟨rfl, Below.refl _ _⟩
  · simp only [decide_eq_false k0] at H0
    by_cases k1 : (1048576 : Int) < (len1 : Int)
    · simp only [decide_eq_true k1] at H1
      have HL0 := Lib.hid H0
      have HL1 := Lib.hid H1
      clear H0 H1 h0 h1 hB hS
      generalize Value.slice a0 len0 cap0 = sv0 at *
      generalize Value.slice a1 len1 cap1 = sv1 at *
      go_enter Tryz.func3, Tryz.ntmps3
      go_wp2_with (go_at_call 4; (first | refine (HL0.out _).mono ?_ | refine (HL1.out _).mono ?_); rintro e w' ⟨rfl, rfl⟩)
      go_ret
      exact ⟨rfl, Below.refl _ _⟩
    · simp only [decide_eq_false k1] at H1
      exact fog_small _ _ z0 z1 ea ep eq w h0 h1 b0 b1 (by omega) (by omega) (Lib.hid H0) (Lib.hid H1) hB hS
end Go.Proofs.YthheacebafleeacGreatDoor
