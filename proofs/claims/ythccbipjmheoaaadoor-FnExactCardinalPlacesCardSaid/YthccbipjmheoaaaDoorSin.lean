/- Sines, of the program and of the model. -/
import Derived.Test.YthccbipjmheoaaaDoorAng
import Derived.Test.YthccbipjmheoaaaDoorOk
import Derived.Test.YthccbipjmheoaaaDoorRows
import Derived.LaidMore
import Derived.Lib.LaidTab
import Derived.Stop.Joined
namespace Go.Proofs.YthccbipjmheoaaaDoor
open Go.ChangeShapes Go.WideShapes Go.ChangeAt Go.RowKit Pm

/-- The program's table of sines lies there. -/
def SinesAt (w : World) : Prop := ∀ r, r < 91 → w.cell? ⟨0, r, none⟩ = some (.int .i64 (sinTab.getD r 0))
theorem SinesAt.below {w w' : World} (h : SinesAt w) (hb : Below w.heap.size w w') : SinesAt w' := fun r hr => cell_below (h r hr) hb
theorem SinesAt.drew {w : World} (h : SinesAt w) : SinesAt w.drew := h
theorem sines_of {W : World} (h : laidMetH Tryd.prog [("loop.example/g00953/impl.sines", Rows.laid_loop_example_g00953_impl_sines)] W) : SinesAt W := by
  rw [MakeChecks.laidMetH_plain _ _ _ (by kernel_rfl)] at h
  have h2 : laidMet Tryd.prog (("loop.example/g00953/impl.sines", Lib.tabData .i64 sinTab) :: []) W := h
  have h3 := Lib.tabIs_of_head (g := 0) (t := 90) (e := 2) (n := 91) (by kernel_rfl) (by kernel_rfl) Tryd.underlying90 Tryd.underlying2 (by kernel_rfl) (by kernel_rfl) h2
  intro r hr
  exact h3.cell (by kernel_rfl) r (by rw [tab_len]; exact hr)

/-- The model's table, in a slice. -/
def TabAt (w : World) (b : Nat) : Prop := ∀ r, r < 91 → w.cell? ⟨b, r, none⟩ = some (.int .i64 (sinTab.getD r 0))
theorem TabAt.below {w w' : World} {b : Nat} (h : TabAt w b) (hb : Below w.heap.size w w') : TabAt w' b := fun r hr => cell_below (h r hr) hb

theorem sinH_least (a : Int) : sinL (leastOf a [180 - a]) = sinH a := by unfold sinH leastOf leastOf; split <;> rfl
theorem sinH_idx (a : Int) (h0 : 0 ≤ a) (h1 : a < 180) : ∃ r : Nat, leastOf a [180 - a] = (r : Int) ∧ r < 91 ∧ sinTab.getD r 0 = sinH a := by
  have h : 0 ≤ leastOf a [180 - a] ∧ leastOf a [180 - a] ≤ 90 := by unfold leastOf leastOf; split <;> omega
  refine ⟨(leastOf a [180 - a]).toNat, by omega, by omega, ?_⟩
  rw [← sinH_least]; rfl

theorem sine_low (d : Int) (w : World) (hS : SinesAt w) (h1 : ang d < 180) :
    Calls Tryd.prog 45 #[.int .i64 d] w fun e w' => e = .returned (.int .i64 (sinR d)) ∧ Below w.heap.size w w' := by
  have hb := (ang_bd d).1
  obtain ⟨r, hr, hr1, hr2⟩ := sinH_idx (ang d) hb h1
  have hv : sinR d = sinTab.getD r 0 := by unfold sinR; rw [if_pos h1, hr2]
  have hc := cell_below (hS r hr1) ((Below.refl _ _).alloc (Nat.le_refl _) (.cells #[Value.int .i64 (180 - ang d)] 2))
  rw [← hv] at hc
  have HR := Lib.hid hr
  have H2 := ints_one_at w (180 - ang d) w.heap.size rfl
  have hri : (r : Int) < 91 := by omega
  clear hr hr2 hv hS
  generalize sinR d = z at *
  go_enter Tryd.func45, Tryd.ntmps45
  go_wp2_with (first | (go_at_call 39; refine (angle_any _ _).mono ?_; rintro e w1 ⟨rfl, rfl⟩) | (go_at_call 62; refine (least_any _ _ _ _ H2).mono ?_; rintro e w1 ⟨rfl, rfl⟩; rw [HR.out]))
  go_ret
  exact ⟨rfl, by go_grown⟩

theorem sine_any (d : Int) (w : World) (hS : SinesAt w) :
    Calls Tryd.prog 45 #[.int .i64 d] w fun e w' => e = .returned (.int .i64 (sinR d)) ∧ Below w.heap.size w w' := by
  by_cases h1 : ang d < 180
  · exact sine_low d w hS h1
  · have hb := ang_bd d
    have hL := sine_low (ang d - 180) w hS (by rw [ang_in (d := ang d - 180) (by omega) (by omega)]; omega)
    have hv : sinR d = -sinR (ang d - 180) := by
      have := sin_half (ang d - 180)
      rw [show ang d - 180 + 180 = ang d by omega, sin_ang] at this
      exact this
    have hz := sin_bd (ang d - 180)
    have HL := Lib.hid hL
    have HV := Lib.hid hv
    clear hL hv hS
    generalize sinR (ang d - 180) = z at *
    go_enter Tryd.func45, Tryd.ntmps45
    go_wp2_with (first | (go_at_call 39; refine (angle_any _ _).mono ?_; rintro e w1 ⟨rfl, rfl⟩) | (go_at_call 45; refine HL.out.mono ?_; rintro e w1 ⟨rfl, hb1⟩))
    go_ret
    exact ⟨ret_i HV.out.symm, hb1⟩

theorem cosine_any (d : Int) (w : World) (hS : SinesAt w) :
    Calls Tryd.prog 46 #[.int .i64 d] w fun e w' => e = .returned (.int .i64 (cosR d)) ∧ Below w.heap.size w w' := by
  have hb := ang_bd d
  have HL := Lib.hid (sine_any (ang d + 90) w hS)
  clear hS
  go_enter Tryd.func46, Tryd.ntmps46
  go_wp2_with (first | (go_at_call 39; refine (angle_any _ _).mono ?_; rintro e w1 ⟨rfl, rfl⟩) | (go_at_call 45; refine HL.out.mono ?_; rintro e w1 ⟨rfl, hb1⟩))
  go_ret
  exact ⟨rfl, hb1⟩

/-! ### The model -/
/-- The table's numbers as the model lays them. -/
def tabLit : Array Value := #[.int .i64 0, .int .i64 17452, .int .i64 34899, .int .i64 52336, .int .i64 69756, .int .i64 87156, .int .i64 104528, .int .i64 121869, .int .i64 139173, .int .i64 156434, .int .i64 173648, .int .i64 190809, .int .i64 207912, .int .i64 224951, .int .i64 241922, .int .i64 258819, .int .i64 275637, .int .i64 292372, .int .i64 309017, .int .i64 325568, .int .i64 342020, .int .i64 358368, .int .i64 374607, .int .i64 390731, .int .i64 406737, .int .i64 422618, .int .i64 438371, .int .i64 453990, .int .i64 469472, .int .i64 484810, .int .i64 500000, .int .i64 515038, .int .i64 529919, .int .i64 544639, .int .i64 559193, .int .i64 573576, .int .i64 587785, .int .i64 601815, .int .i64 615661, .int .i64 629320, .int .i64 642788, .int .i64 656059, .int .i64 669131, .int .i64 681998, .int .i64 694658, .int .i64 707107, .int .i64 719340, .int .i64 731354, .int .i64 743145, .int .i64 754710, .int .i64 766044, .int .i64 777146, .int .i64 788011, .int .i64 798636, .int .i64 809017, .int .i64 819152, .int .i64 829038, .int .i64 838671, .int .i64 848048, .int .i64 857167, .int .i64 866025, .int .i64 874620, .int .i64 882948, .int .i64 891007, .int .i64 898794, .int .i64 906308, .int .i64 913545, .int .i64 920505, .int .i64 927184, .int .i64 933580, .int .i64 939693, .int .i64 945519, .int .i64 951057, .int .i64 956305, .int .i64 961262, .int .i64 965926, .int .i64 970296, .int .i64 974370, .int .i64 978148, .int .i64 981627, .int .i64 984808, .int .i64 987688, .int .i64 990268, .int .i64 992546, .int .i64 994522, .int .i64 996195, .int .i64 997564, .int .i64 998630, .int .i64 999391, .int .i64 999848, .int .i64 1000000]
theorem tabLit_eq : tabLit = (sinTab.map fun z => Value.int .i64 z).toArray := by kernel_rfl
theorem tabLit_at (w : World) (T : TypeId) : TabAt (w.alloc (.cells tabLit T)) w.heap.size := by
  intro r hr
  rw [World.cell?_alloc_new, tabLit_eq]
  have hl := tab_len
  simp [hl, hr]

set_option maxRecDepth 100000 in
set_option maxHeartbeats 2000000 in
theorem stable_lit (w : World) :
    Calls Tryd.prog 57 #[] w fun e w' => e = .returned (.slice (some ⟨w.heap.size, 0, none⟩) 91 91) ∧ w' = w.alloc (.cells tabLit 2) := by
  go_enter Tryd.func57, Tryd.ntmps57
  go_wp2
  go_ret
  exact ⟨rfl, rfl⟩
theorem stable_any (w : World) :
    Calls Tryd.prog 57 #[] w fun e w' => e = .returned (.slice (some ⟨w.heap.size, 0, none⟩) 91 91) ∧ Below w.heap.size w w' ∧ TabAt w' w.heap.size :=
  (stable_lit w).mono fun e w' ⟨he, hw⟩ => ⟨he, by rw [hw]; go_grown, by rw [hw]; exact tabLit_at w _⟩

set_option maxRecDepth 100000 in
theorem stab_case (b : Nat) (d : Int) (w : World) (hT : TabAt w b) (r : Nat) (hr : r < 91) (hv : sinR d = if ang d < 180 then sinTab.getD r 0 else -sinTab.getD r 0)
    (hi : (r : Int) = if ang d < 180 then (if 90 < ang d then 180 - ang d else ang d) else (if 90 < ang d - 180 then 180 - (ang d - 180) else ang d - 180)) :
    Calls Tryd.prog 58 #[.slice (some ⟨b, 0, none⟩) 91 91, .int .i64 d] w fun e w' => e = .returned (.int .i64 (sinR d)) ∧ w = w' := by
  have hb := ang_bd d
  have hc := hT r hr
  have hz := sinL_bd r
  have hz2 : sinL r = sinTab.getD r 0 := rfl
  rw [hz2] at hz
  clear hT hz2
  have hri : (r : Int) < 91 := by omega
  generalize sinTab.getD r 0 = z at *
  have HV := Lib.hid hv
  clear hv
  by_cases h1 : ang d < 180
  · rw [if_pos h1] at hi
    have HV2 := Lib.hid (HV.out.trans (if_pos h1))
    clear HV
    by_cases h2 : 90 < ang d
    · rw [if_pos h2] at hi
      have hir : (180 - ang d) = (r : Int) := hi.symm
      clear hi
      go_enter Tryd.func58, Tryd.ntmps58
      go_wp2_with (go_at_call 72; refine (sangle_any _ _).mono ?_; rintro e w1 ⟨rfl, rfl⟩)
      go_ret
      exact ⟨ret_i (by first | exact HV2.out.symm | (rw [HV2.out]; omega)), rfl⟩
    · rw [if_neg h2] at hi
      have hir : ang d = (r : Int) := hi.symm
      clear hi
      go_enter Tryd.func58, Tryd.ntmps58
      go_wp2_with (go_at_call 72; refine (sangle_any _ _).mono ?_; rintro e w1 ⟨rfl, rfl⟩)
      go_ret
      exact ⟨ret_i (by first | exact HV2.out.symm | (rw [HV2.out]; omega)), rfl⟩
  · rw [if_neg h1] at hi
    have HV2 := Lib.hid (HV.out.trans (if_neg h1))
    clear HV
    by_cases h2 : 90 < ang d - 180
    · rw [if_pos h2] at hi
      have hir : (180 - (ang d - 180)) = (r : Int) := hi.symm
      clear hi
      go_enter Tryd.func58, Tryd.ntmps58
      go_wp2_with (go_at_call 72; refine (sangle_any _ _).mono ?_; rintro e w1 ⟨rfl, rfl⟩)
      go_ret
      exact ⟨ret_i (by first | exact HV2.out.symm | (rw [HV2.out]; omega)), rfl⟩
    · rw [if_neg h2] at hi
      have hir : (ang d - 180) = (r : Int) := hi.symm
      clear hi
      go_enter Tryd.func58, Tryd.ntmps58
      go_wp2_with (go_at_call 72; refine (sangle_any _ _).mono ?_; rintro e w1 ⟨rfl, rfl⟩)
      go_ret
      exact ⟨ret_i (by first | exact HV2.out.symm | (rw [HV2.out]; omega)), rfl⟩

theorem ssinein_any (b : Nat) (d : Int) (w : World) (hT : TabAt w b) :
    Calls Tryd.prog 58 #[.slice (some ⟨b, 0, none⟩) 91 91, .int .i64 d] w fun e w' => e = .returned (.int .i64 (sinR d)) ∧ w = w' := by
  have hb := ang_bd d
  by_cases h1 : ang d < 180
  · refine stab_case b d w hT (if 90 < ang d then 180 - ang d else ang d).toNat (by split <;> omega) ?_ ?_
    · rw [if_pos h1]
      unfold sinR sinH
      rw [if_pos h1]
      by_cases h2 : 180 - ang d < ang d
      · rw [if_pos h2, if_pos (by omega)]; rfl
      · rw [if_neg h2]
        by_cases h3 : 90 < ang d
        · omega
        · rw [if_neg h3]; rfl
    · rw [if_pos h1]; split <;> omega
  · refine stab_case b d w hT (if 90 < ang d - 180 then 180 - (ang d - 180) else ang d - 180).toNat (by split <;> omega) ?_ ?_
    · rw [if_neg h1]
      unfold sinR sinH
      rw [if_neg h1]
      by_cases h2 : 180 - (ang d - 180) < ang d - 180
      · rw [if_pos h2, if_pos (by omega)]; rfl
      · rw [if_neg h2]
        by_cases h3 : 90 < ang d - 180
        · omega
        · rw [if_neg h3]; rfl
    · rw [if_neg h1]; split <;> omega


end Go.Proofs.YthccbipjmheoaaaDoor
