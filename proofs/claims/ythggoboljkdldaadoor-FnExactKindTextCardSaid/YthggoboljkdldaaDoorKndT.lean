/- The texts of kinds and the lengths of flashes, of the program and of the model. -/
import Derived.Test.YthggoboljkdldaaDoorKndR
namespace Go.Proofs.YthggoboljkdldaaDoor
open Go.ChangeShapes Go.WideShapes Go.ChangeAt Go.RowKit Pm

set_option maxRecDepth 100000 in
theorem kindtext_any (k : Int) (w : World) (hK : KindsAt w) :
    Calls Tryd.prog 13 #[.int .i64 k] w fun e w' => e = .returned (.string (kindText k)) ∧ Below w.heap.size w w' := by
  obtain ⟨q, z, h⟩ := rowof_any k w hK
  obtain ⟨s, hs⟩ : ∃ s, s = kindText k := ⟨_, rfl⟩
  obtain ⟨f, hf⟩ : ∃ f, f = flashLen k := ⟨_, rfl⟩
  rw [← hs, ← hf] at h
  rw [← hs]
  have H := Lib.hid h
  have hf0 : ∀ w, (Instr.field 51 (.agg #[.string s, .int .i64 f, .int .i64 q, .int .i64 z]) 0).run Tryd.prog w = .ok (.string s) w := fun _ => by kernel_rfl
  clear h hs hf hK
  go_enter Tryd.func13, Tryd.ntmps13
  go_wp2_with (go_at_call 41; refine H.out.mono ?_; rintro e w' ⟨rfl, hb⟩)
  go_ret
  exact ⟨rfl, hb⟩
set_option maxRecDepth 100000 in
theorem flashlength_any (k : Int) (w : World) (hK : KindsAt w) :
    Calls Tryd.prog 20 #[.int .i64 k] w fun e w' => e = .returned (.tuple #[.int .i64 (flashLen k), .int .i64 (if flashLen k = 0 then 2 else 0)]) ∧ Below w.heap.size w w' := by
  obtain ⟨q, z, h⟩ := rowof_any k w hK
  obtain ⟨s, hs⟩ : ∃ s, s = kindText k := ⟨_, rfl⟩
  obtain ⟨f, hf⟩ : ∃ f, f = flashLen k := ⟨_, rfl⟩
  rw [← hs, ← hf] at h
  rw [← hf]
  have H := Lib.hid h
  have hf1 : ∀ w, (Instr.field 51 (.agg #[.string s, .int .i64 f, .int .i64 q, .int .i64 z]) 1).run Tryd.prog w = .ok (.int .i64 f) w := fun _ => by kernel_rfl
  clear h hs hf hK
  by_cases h0 : f = 0
  · subst h0
    go_enter Tryd.func20, Tryd.ntmps20
    go_wp2_with (go_at_call 41; refine H.out.mono ?_; rintro e w' ⟨rfl, hb⟩)
    go_ret2
    exact ⟨rfl, hb⟩
  · rw [if_neg h0]
    have hb0 : (f == 0) = false := by rw [beq_eq_false_iff_ne]; exact h0
    clear h0
    go_enter Tryd.func20, Tryd.ntmps20
    go_wp2_with (go_at_call 41; refine H.out.mono ?_; rintro e w' ⟨rfl, hb⟩)
    go_ret2
    exact ⟨rfl, hb⟩
/-! ### The model -/
theorem sinkind_any (k : Int) (w : World) :
    Calls Tryd.prog 39 #[.int .i64 k] w fun e w' => e = .returned (.bool (inB 1 8 [k])) ∧ w = w' := by
  go_enter Tryd.func39, Tryd.ntmps39
  go_wp2_with (go_at_call 67; refine (in_any _ _ _ _).mono ?_; rintro e w' ⟨rfl, rfl⟩)
  go_ret
  exact ⟨rfl, rfl⟩
set_option maxRecDepth 100000 in
theorem skindtext_any (k : Int) (w : World) :
    Calls Tryd.prog 12 #[.int .i64 k] w fun e w' => e = .returned (.string (kindText k)) ∧ Below w.heap.size w w' := by
  have HI := fun w => sinkind_any k w
  cases h : inB 1 8 [k]
  · rw [show kindText k = ⟨#[]⟩ by unfold kindText; rw [h]; rfl]
    rw [h] at HI
    have HI := Lib.hid HI
    clear h
    go_enter Tryd.func12, Tryd.ntmps12
    go_wp2_with (go_at_call 39; refine (HI.out _).mono ?_; rintro e w' ⟨rfl, rfl⟩)
    go_ret
    exact ⟨rfl, by go_grown⟩
  · have hb : 1 ≤ k ∧ k ≤ 8 := by simpa [inB] using h
    have hk : k = 1 ∨ k = 2 ∨ k = 3 ∨ k = 4 ∨ k = 5 ∨ k = 6 ∨ k = 7 ∨ k = 8 := by omega
    clear h hb HI
    rcases hk with rfl | rfl | rfl | rfl | rfl | rfl | rfl | rfl
    all_goals
      go_enter Tryd.func12, Tryd.ntmps12
      go_wp2_with (first | (go_at_call 39; refine (sinkind_any _ _).mono ?_; rintro e w' ⟨rfl, rfl⟩) | (go_at_call 40; go_in))
      go_ret
      exact ⟨rfl, by go_grown⟩
set_option maxRecDepth 100000 in
theorem sflashlen_any (k : Int) (w : World) :
    Calls Tryd.prog 19 #[.int .i64 k] w fun e w' => e = .returned (.tuple #[.int .i64 (flashLen k), .int .i64 (if flashLen k = 0 then 2 else 0)]) ∧ Below w.heap.size w w' := by
  cases h : inB 1 8 [k]
  · rw [show flashLen k = 0 by unfold flashLen; rw [h]; rfl]
    have HI := Lib.hid (fun w => h ▸ sinkind_any k w)
    clear h
    go_enter Tryd.func19, Tryd.ntmps19
    go_wp2_with (go_at_call 39; refine (HI.out _).mono ?_; rintro e w' ⟨rfl, rfl⟩)
    go_ret2
    exact ⟨rfl, by go_grown⟩
  · have hb : 1 ≤ k ∧ k ≤ 8 := by simpa [inB] using h
    have hk : k = 1 ∨ k = 2 ∨ k = 3 ∨ k = 4 ∨ k = 5 ∨ k = 6 ∨ k = 7 ∨ k = 8 := by omega
    clear h hb
    rcases hk with rfl | rfl | rfl | rfl | rfl | rfl | rfl | rfl
    all_goals
      go_enter Tryd.func19, Tryd.ntmps19
      go_wp2_with (first | (go_at_call 39; refine (sinkind_any _ _).mono ?_; rintro e w' ⟨rfl, rfl⟩) | (go_at_call 45; go_in))
      go_ret2
      exact ⟨rfl, by go_grown⟩
end Go.Proofs.YthggoboljkdldaaDoor
