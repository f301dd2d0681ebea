/- Angles and turns, of the program and of the model. -/
import Derived.Test.YthccbipjmheoaaaDoorInts
import Derived.Test.YthccbipjmheoaaaDoorGeoM
namespace Go.Proofs.YthccbipjmheoaaaDoor
open Go.ChangeShapes Go.WideShapes Go.ChangeAt Go.RowKit Pm

theorem tmod_ang (d : Int) : ∃ m : Int, d.tmod 360 = m ∧ -359 ≤ m ∧ m ≤ 359 ∧ (m + 360).tmod 360 = ang d := by
  refine ⟨d.tmod 360, rfl, ?_⟩
  have h : d.tmod 360 = if 0 ≤ d then d % 360 else -((-d) % 360) := by
    split
    · exact Int.tmod_eq_emod_of_nonneg (by omega)
    · obtain ⟨c, rfl⟩ : ∃ c, d = -c := ⟨-d, by omega⟩
      rw [Int.neg_tmod, Int.neg_neg, Int.tmod_eq_emod_of_nonneg (by omega)]
  rw [h]
  have h2 : -359 ≤ (if 0 ≤ d then d % 360 else -((-d) % 360)) ∧ (if 0 ≤ d then d % 360 else -((-d) % 360)) ≤ 359 := by split <;> omega
  refine ⟨h2.1, h2.2, ?_⟩
  rw [Int.tmod_eq_emod_of_nonneg (by omega)]
  unfold ang
  split <;> omega

theorem angle_any (d : Int) (w : World) :
    Calls Tryd.prog 39 #[.int .i64 d] w fun e w' => e = .returned (.int .i64 (ang d)) ∧ w = w' := by
  obtain ⟨m, h1, m0, m1, h3⟩ := tmod_ang d
  have hb := ang_bd d
  generalize ang d = a at *
  go_enter Tryd.func39, Tryd.ntmps39
  go_wp2
  go_ret
  exact ⟨rfl, rfl⟩

theorem sangle_any (d : Int) (w : World) :
    Calls Tryd.prog 72 #[.int .i64 d] w fun e w' => e = .returned (.int .i64 (ang d)) ∧ w = w' := by
  obtain ⟨m, h1, m0, m1, h3⟩ := tmod_ang d
  have hb := ang_bd d
  generalize ang d = a at *
  go_enter Tryd.func72, Tryd.ntmps72
  go_wp2
  go_ret
  exact ⟨rfl, rfl⟩
end Go.Proofs.YthccbipjmheoaaaDoor
