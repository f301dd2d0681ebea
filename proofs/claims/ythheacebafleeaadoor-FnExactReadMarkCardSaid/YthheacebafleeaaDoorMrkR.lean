/- The program's row of a kind of marks; names, sides, looks. -/
import Derived.Test.YthheacebafleeaaDoorMrkT
import Derived.Deep.RegionHeld3
namespace Go.Proofs.YthheacebafleeaaDoor
open Go.ChangeShapes Go.WideShapes Go.ChangeAt Go.RowKit Pm

theorem mwithin (z lo hi : Int) (b : Bool) (h : inB lo hi [z] = b) (w' : World) (n : Nat) (hn : w'.heap.size = n) : Calls Tryd.prog 54 #[.int .i64 lo, .int .i64 hi, .slice (some ⟨n, 0, none⟩) 1 1] (w'.alloc (.cells #[Value.int .i64 z] 2)) (fun e w'' => e = .returned (.bool b) ∧ (w'.alloc (.cells #[Value.int .i64 z] 2)) = w'') := by
  subst hn h
  exact within_any lo hi _ [z] _ (ints_one w' .i64 z 2)
/-- The row of a kind. -/
def rowV (k : Int) : Value := .agg #[.string (mkF k 0), .string (mkF k 1), .string (mkF k 2), .string (mkF k 3), .string (mkF k 4), .string (mkF k 5), .string (mkF k 6)]
set_option maxRecDepth 100000 in
theorem markrow_no (k : Int) (w : World) (h : inB 0 9 [k] = false) :
    Calls Tryd.prog 35 #[.int .i64 k] w fun e w' => e = .returned (.agg #[.string ⟨#[]⟩, .string ⟨#[]⟩, .string ⟨#[]⟩, .string ⟨#[]⟩, .string ⟨#[]⟩, .string ⟨#[]⟩, .string ⟨#[]⟩]) ∧ Below w.heap.size w w' := by
  have HW := Lib.hid (mwithin k 0 9 false h)
  clear h
  go_enter Tryd.func35, Tryd.ntmps35
  go_wp2_with (go_at_call 54; (refine (HW.out _ _ ?_).mono ?_); (· simp); rintro e w1 ⟨rfl, hw1⟩; refine Hid.out ?_)
  refine Lib.hid ?_
  have hb : Below w.heap.size w w1 := by rw [← hw1]; go_grown
  have d0 : w1.cell? ⟨w.heap.size, 0, none⟩ = some (.string ⟨#[]⟩) := by rw [← hw1]; clear hw1; go_cell
  have d1 : w1.cell? ⟨w.heap.size, 1, none⟩ = some (.string ⟨#[]⟩) := by rw [← hw1]; clear hw1; go_cell
  have d2 : w1.cell? ⟨w.heap.size, 2, none⟩ = some (.string ⟨#[]⟩) := by rw [← hw1]; clear hw1; go_cell
  have d3 : w1.cell? ⟨w.heap.size, 3, none⟩ = some (.string ⟨#[]⟩) := by rw [← hw1]; clear hw1; go_cell
  have d4 : w1.cell? ⟨w.heap.size, 4, none⟩ = some (.string ⟨#[]⟩) := by rw [← hw1]; clear hw1; go_cell
  have d5 : w1.cell? ⟨w.heap.size, 5, none⟩ = some (.string ⟨#[]⟩) := by rw [← hw1]; clear hw1; go_cell
  have d6 : w1.cell? ⟨w.heap.size, 6, none⟩ = some (.string ⟨#[]⟩) := by rw [← hw1]; clear hw1; go_cell
  have g0 : w1.frozen? ⟨w.heap.size, 0, none⟩ = false := by rw [← hw1]; clear hw1; go_simp
  have g1 : w1.frozen? ⟨w.heap.size, 1, none⟩ = false := by rw [← hw1]; clear hw1; go_simp
  have g2 : w1.frozen? ⟨w.heap.size, 2, none⟩ = false := by rw [← hw1]; clear hw1; go_simp
  have g3 : w1.frozen? ⟨w.heap.size, 3, none⟩ = false := by rw [← hw1]; clear hw1; go_simp
  have g4 : w1.frozen? ⟨w.heap.size, 4, none⟩ = false := by rw [← hw1]; clear hw1; go_simp
  have g5 : w1.frozen? ⟨w.heap.size, 5, none⟩ = false := by rw [← hw1]; clear hw1; go_simp
  have g6 : w1.frozen? ⟨w.heap.size, 6, none⟩ = false := by rw [← hw1]; clear hw1; go_simp
  have HB := Lib.hid hb
  clear hw1 hb
  go_wp2
  refine bodyPost_ret (v := .agg #[.string ⟨#[]⟩, .string ⟨#[]⟩, .string ⟨#[]⟩, .string ⟨#[]⟩, .string ⟨#[]⟩, .string ⟨#[]⟩, .string ⟨#[]⟩]) (by simp [results, Tryd.results35, go_sem, *]) rfl ⟨rfl, ?_⟩
  iterate 7 (refine Below.setCell ?_ (by exact Nat.le_refl _) _)
  exact HB.out
set_option maxRecDepth 100000 in
theorem markrow_yes (k : Int) (r : Nat) (w : World) (hM : MarksAt w) (h : inB 0 9 [k] = true) (hr : k = (r : Int)) :
    Calls Tryd.prog 35 #[.int .i64 k] w fun e w' => e = .returned (rowV k) ∧ Below w.heap.size w w' := by
  have h4 := inb_yes h
  have HW := Lib.hid (mwithin k 0 9 true h)
  subst hr
  have r5 : (r : Int) < 10 := by omega
  have HK := Lib.hid (fun w1 (hb : Below w.heap.size w w1) => hM.below hb r (by omega))
  unfold rowV
  obtain ⟨s0, hs0⟩ : ∃ s, s = mkF r 0 := ⟨_, rfl⟩
  obtain ⟨s1, hs1⟩ : ∃ s, s = mkF r 1 := ⟨_, rfl⟩
  obtain ⟨s2, hs2⟩ : ∃ s, s = mkF r 2 := ⟨_, rfl⟩
  obtain ⟨s3, hs3⟩ : ∃ s, s = mkF r 3 := ⟨_, rfl⟩
  obtain ⟨s4, hs4⟩ : ∃ s, s = mkF r 4 := ⟨_, rfl⟩
  obtain ⟨s5, hs5⟩ : ∃ s, s = mkF r 5 := ⟨_, rfl⟩
  obtain ⟨s6, hs6⟩ : ∃ s, s = mkF r 6 := ⟨_, rfl⟩
  rw [← hs0, ← hs1, ← hs2, ← hs3, ← hs4, ← hs5, ← hs6]
  replace HK := Lib.hid (fun w1 (hb : Below w.heap.size w w1) => (⟨hs0 ▸ HK.out w1 hb 0 (by omega), hs1 ▸ HK.out w1 hb 1 (by omega), hs2 ▸ HK.out w1 hb 2 (by omega), hs3 ▸ HK.out w1 hb 3 (by omega), hs4 ▸ HK.out w1 hb 4 (by omega), hs5 ▸ HK.out w1 hb 5 (by omega), hs6 ▸ HK.out w1 hb 6 (by omega)⟩ : w1.cell? ⟨0, r * 7 + 0, none⟩ = some (.string s0) ∧ w1.cell? ⟨0, r * 7 + 1, none⟩ = some (.string s1) ∧ w1.cell? ⟨0, r * 7 + 2, none⟩ = some (.string s2) ∧ w1.cell? ⟨0, r * 7 + 3, none⟩ = some (.string s3) ∧ w1.cell? ⟨0, r * 7 + 4, none⟩ = some (.string s4) ∧ w1.cell? ⟨0, r * 7 + 5, none⟩ = some (.string s5) ∧ w1.cell? ⟨0, r * 7 + 6, none⟩ = some (.string s6)))
  clear hM h hs0 hs1 hs2 hs3 hs4 hs5 hs6 h4
  go_enter Tryd.func35, Tryd.ntmps35
  go_wp2_with (go_at_call 54; (refine (HW.out _ _ ?_).mono ?_); (· simp); rintro e w1 ⟨rfl, hw1⟩; refine Hid.out ?_)
  refine Lib.hid ?_
  have hb : Below w.heap.size w w1 := by rw [← hw1]; go_grown
  obtain ⟨k0, k1, k2, k3, k4, k5, k6⟩ := HK.out w1 hb
  rw [Nat.add_zero] at k0
  have d0 : w1.cell? ⟨w.heap.size, 0, none⟩ = some (.string ⟨#[]⟩) := by rw [← hw1]; clear hw1; go_cell
  have d1 : w1.cell? ⟨w.heap.size, 1, none⟩ = some (.string ⟨#[]⟩) := by rw [← hw1]; clear hw1; go_cell
  have d2 : w1.cell? ⟨w.heap.size, 2, none⟩ = some (.string ⟨#[]⟩) := by rw [← hw1]; clear hw1; go_cell
  have d3 : w1.cell? ⟨w.heap.size, 3, none⟩ = some (.string ⟨#[]⟩) := by rw [← hw1]; clear hw1; go_cell
  have d4 : w1.cell? ⟨w.heap.size, 4, none⟩ = some (.string ⟨#[]⟩) := by rw [← hw1]; clear hw1; go_cell
  have d5 : w1.cell? ⟨w.heap.size, 5, none⟩ = some (.string ⟨#[]⟩) := by rw [← hw1]; clear hw1; go_cell
  have d6 : w1.cell? ⟨w.heap.size, 6, none⟩ = some (.string ⟨#[]⟩) := by rw [← hw1]; clear hw1; go_cell
  have g0 : w1.frozen? ⟨w.heap.size, 0, none⟩ = false := by rw [← hw1]; clear hw1; go_simp
  have g1 : w1.frozen? ⟨w.heap.size, 1, none⟩ = false := by rw [← hw1]; clear hw1; go_simp
  have g2 : w1.frozen? ⟨w.heap.size, 2, none⟩ = false := by rw [← hw1]; clear hw1; go_simp
  have g3 : w1.frozen? ⟨w.heap.size, 3, none⟩ = false := by rw [← hw1]; clear hw1; go_simp
  have g4 : w1.frozen? ⟨w.heap.size, 4, none⟩ = false := by rw [← hw1]; clear hw1; go_simp
  have g5 : w1.frozen? ⟨w.heap.size, 5, none⟩ = false := by rw [← hw1]; clear hw1; go_simp
  have g6 : w1.frozen? ⟨w.heap.size, 6, none⟩ = false := by rw [← hw1]; clear hw1; go_simp
  have HB := Lib.hid hb
  clear hw1 hb
  go_wp2
  refine bodyPost_ret (v := .agg #[.string s0, .string s1, .string s2, .string s3, .string s4, .string s5, .string s6]) (by simp [results, Tryd.results35, go_sem, *]) rfl ⟨rfl, ?_⟩
  iterate 7 (refine Below.setCell ?_ (by exact Nat.le_refl _) _)
  exact HB.out
theorem markrow_any (k : Int) (w : World) (hM : MarksAt w) :
    Calls Tryd.prog 35 #[.int .i64 k] w fun e w' => e = .returned (rowV k) ∧ Below w.heap.size w w' := by
  cases h : inB 0 9 [k]
  · unfold rowV
    rw [mkF_out h, mkF_out h, mkF_out h, mkF_out h, mkF_out h, mkF_out h, mkF_out h]
    exact markrow_no k w h
  · exact markrow_yes k k.toNat w hM h (by have := inb_yes h; omega)
set_option maxRecDepth 100000 in
theorem markname_any (k : Int) (w : World) (hM : MarksAt w) :
    Calls Tryd.prog 12 #[.int .i64 k] w fun e w' => e = .returned (.string (mkF k 0)) ∧ Below w.heap.size w w' := by
  have H := Lib.hid (markrow_any k w hM)
  unfold rowV at H
  generalize mkF k 0 = s0 at *
  generalize mkF k 1 = s1 at *
  generalize mkF k 2 = s2 at *
  generalize mkF k 3 = s3 at *
  generalize mkF k 4 = s4 at *
  generalize mkF k 5 = s5 at *
  generalize mkF k 6 = s6 at *
  have hf0 : ∀ w, (Instr.field 49 (.agg #[.string s0, .string s1, .string s2, .string s3, .string s4, .string s5, .string s6]) 0).run Tryd.prog w = .ok (.string s0) w := fun _ => by kernel_rfl
  clear hM
  go_enter Tryd.func12, Tryd.ntmps12
  go_wp2_with (go_at_call 35; refine H.out.mono ?_; rintro e w' ⟨rfl, hb⟩)
  go_ret
  exact ⟨rfl, hb⟩
set_option maxRecDepth 100000 in
theorem sidetopass_any (k : Int) (w : World) (hM : MarksAt w) :
    Calls Tryd.prog 23 #[.int .i64 k] w fun e w' => e = .returned (.string (mkF k 4)) ∧ Below w.heap.size w w' := by
  have H := Lib.hid (markrow_any k w hM)
  unfold rowV at H
  generalize mkF k 0 = s0 at *
  generalize mkF k 1 = s1 at *
  generalize mkF k 2 = s2 at *
  generalize mkF k 3 = s3 at *
  generalize mkF k 4 = s4 at *
  generalize mkF k 5 = s5 at *
  generalize mkF k 6 = s6 at *
  have hf0 : ∀ w, (Instr.field 49 (.agg #[.string s0, .string s1, .string s2, .string s3, .string s4, .string s5, .string s6]) 4).run Tryd.prog w = .ok (.string s4) w := fun _ => by kernel_rfl
  clear hM
  go_enter Tryd.func23, Tryd.ntmps23
  go_wp2_with (go_at_call 35; refine H.out.mono ?_; rintro e w' ⟨rfl, hb⟩)
  go_ret
  exact ⟨rfl, hb⟩
end Go.Proofs.YthheacebafleeaaDoor
