/- The contract of the model's Blend. -/
import Derived.Test.YtbfhnfoaipaljaaDoorBlnI
import Derived.Test.YtbfhnfoaipaljaaDoorDivS
namespace Go.Proofs.YtbfhnfoaipaljaaDoor
open Go.ChangeShapes Go.WideShapes Go.ChangeAt Go.RowKit Pm

theorem sline_any (x0 y0 x1 y1 x : Int) (w : World) (b0 : -1000000 ≤ x0 ∧ x0 ≤ 1000000) (b1 : -1000000 ≤ y0 ∧ y0 ≤ 1000000) (b2 : -1000000 ≤ x1 ∧ x1 ≤ 1000000) (b3 : -1000000 ≤ y1 ∧ y1 ≤ 1000000) :
    Calls Tryd.prog 115 #[.int .i64 x0, .int .i64 y0, .int .i64 x1, .int .i64 y1, .int .i64 x] w fun e w' => e = .returned (.int .i64 (lineV x0 y0 x1 y1 x)) ∧ w = w' := by
  by_cases h1 : x ≤ x0
  · have hv := Lib.hid (show lineV x0 y0 x1 y1 x = y0 by unfold lineV; rw [if_pos (Or.inl h1)])
    go_enter Tryd.func115, Tryd.ntmps115
    go_wp2
    go_ret
    exact ⟨ret_i hv.out.symm, rfl⟩
  · by_cases h2 : x1 ≤ x0
    · have hv := Lib.hid (show lineV x0 y0 x1 y1 x = y0 by unfold lineV; rw [if_pos (Or.inr h2)])
      go_enter Tryd.func115, Tryd.ntmps115
      go_wp2
      go_ret
      exact ⟨ret_i hv.out.symm, rfl⟩
    · by_cases h3 : x1 ≤ x
      · have hv := Lib.hid (show lineV x0 y0 x1 y1 x = y1 by unfold lineV; rw [if_neg (by omega), if_pos h3])
        go_enter Tryd.func115, Tryd.ntmps115
        go_wp2
        go_ret
        exact ⟨ret_i hv.out.symm, rfl⟩
      · have hv := Lib.hid (show lineV x0 y0 x1 y1 x = y0 + dvr ((y1 - y0) * (x - x0)) (x1 - x0) by unfold lineV; rw [if_neg (by omega), if_neg h3])
        obtain ⟨m1, m2⟩ := blnd_mul_bd (y1 - y0) (x - x0) 2000000 2000000 (by omega) (by omega) (by omega) (by omega)
        obtain ⟨d1, d2⟩ := blnd_dvr_bd ((y1 - y0) * (x - x0)) (x1 - x0) (by omega) (by omega) (by omega) (by omega)
        go_enter Tryd.func115, Tryd.ntmps115
        go_wp2_with (go_at_call 131; refine (sdiv_any _ _ _ (by omega) (by omega) (by omega) (by omega) (by omega)).mono ?_; rintro e w' ⟨rfl, rfl⟩)
        go_ret
        exact ⟨ret_i hv.out.symm, rfl⟩

theorem sblend_any (x0 y0 x1 y1 x : Int) (w : World) :
    Calls Tryd.prog 94 #[.int .i64 x0, .int .i64 y0, .int .i64 x1, .int .i64 y1, .int .i64 x] w fun e w' => e = .returned (.int .i64 (blendV x0 y0 x1 y1 x)) ∧ w = w' := by
  cases c0 : inB (-1000000) 1000000 [x0]
  · have hv := Lib.hid (show blendV x0 y0 x1 y1 x = 0 by simp [blendV, blnd_four, c0])
    go_enter Tryd.func94, Tryd.ntmps94
    go_wp2_with (go_at_call 65; refine (in_any _ _ _ _).mono ?_; rintro e w' ⟨rfl, rfl⟩)
    go_ret
    exact ⟨ret_i hv.out.symm, rfl⟩
  cases c2 : inB (-1000000) 1000000 [x1]
  · have hv := Lib.hid (show blendV x0 y0 x1 y1 x = 0 by simp [blendV, blnd_four, c2])
    go_enter Tryd.func94, Tryd.ntmps94
    go_wp2_with (go_at_call 65; refine (in_any _ _ _ _).mono ?_; rintro e w' ⟨rfl, rfl⟩)
    go_ret
    exact ⟨ret_i hv.out.symm, rfl⟩
  cases c1 : inB (-1000000) 1000000 [y0]
  · have hv := Lib.hid (show blendV x0 y0 x1 y1 x = 0 by simp [blendV, blnd_four, c1])
    go_enter Tryd.func94, Tryd.ntmps94
    go_wp2_with (go_at_call 65; refine (in_any _ _ _ _).mono ?_; rintro e w' ⟨rfl, rfl⟩)
    go_ret
    exact ⟨ret_i hv.out.symm, rfl⟩
  cases c3 : inB (-1000000) 1000000 [y1]
  · have hv := Lib.hid (show blendV x0 y0 x1 y1 x = 0 by simp [blendV, blnd_four, c3])
    go_enter Tryd.func94, Tryd.ntmps94
    go_wp2_with (go_at_call 65; refine (in_any _ _ _ _).mono ?_; rintro e w' ⟨rfl, rfl⟩)
    go_ret
    exact ⟨ret_i hv.out.symm, rfl⟩
  have hv := Lib.hid (show blendV x0 y0 x1 y1 x = lineV x0 y0 x1 y1 x by simp [blendV, blnd_four, c0, c1, c2, c3])
  have l0 := Lib.hid (blnd_in c0)
  have l1 := Lib.hid (blnd_in c1)
  have l2 := Lib.hid (blnd_in c2)
  have l3 := Lib.hid (blnd_in c3)
  go_enter Tryd.func94, Tryd.ntmps94
  go_wp2_with (first | (go_at_call 65; refine (in_any _ _ _ _).mono ?_; rintro e w' ⟨rfl, rfl⟩) | (go_at_call 115; refine (sline_any _ _ _ _ _ _ l0.out l1.out l2.out l3.out).mono ?_; rintro e w' ⟨rfl, rfl⟩))
  go_ret
  exact ⟨ret_i hv.out.symm, rfl⟩

end Go.Proofs.YtbfhnfoaipaljaaDoor
