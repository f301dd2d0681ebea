/- The program's row of a kind; what is wrong with a fog signal. -/
import Derived.Test.YtbfhnfoaipaljaaDoorFogT
import Derived.Deep.RegionHeld3
namespace Go.Proofs.YtbfhnfoaipaljaaDoor
open Go.ChangeShapes Go.WideShapes Go.ChangeAt Go.RowKit Pm

theorem fwithin (z lo hi : Int) (b : Bool) (h : inB lo hi [z] = b) (w' : World) (n : Nat) (hn : w'.heap.size = n) : Calls Tryd.prog 68 #[.int .i64 lo, .int .i64 hi, .slice (some ⟨n, 0, none⟩) 1 1] (w'.alloc (.cells #[Value.int .i64 z] 2)) (fun e w'' => e = .returned (.bool b) ∧ (w'.alloc (.cells #[Value.int .i64 z] 2)) = w'') := by
  subst hn h
  exact within_any lo hi _ [z] _ (ints_one w' .i64 z 2)
set_option maxRecDepth 100000 in
theorem fogrow_no (k : Int) (w : World) (h : inB 1 4 [k] = false) :
    Calls Tryd.prog 47 #[.int .i64 k] w fun e w' => e = .returned (.agg #[.string ⟨#[]⟩, .int .i64 0]) ∧ Below w.heap.size w w' := by
  have HW := Lib.hid (fwithin k 1 4 false h)
  clear h
  go_enter Tryd.func47, Tryd.ntmps47
  go_wp2_with (go_at_call 68; (refine (HW.out _ _ ?_).mono ?_); (· simp); rintro e w1 ⟨rfl, hw1⟩; refine Hid.out ?_)
  refine Lib.hid ?_
  have hb : Below w.heap.size w w1 := by rw [← hw1]; go_grown
  have d0 : w1.cell? ⟨w.heap.size, 0, none⟩ = some (.string ⟨#[]⟩) := by rw [← hw1]; clear hw1; go_cell
  have d1 : w1.cell? ⟨w.heap.size, 1, none⟩ = some (.int .i64 0) := by rw [← hw1]; clear hw1; go_cell
  have g0 : w1.frozen? ⟨w.heap.size, 0, none⟩ = false := by rw [← hw1]; clear hw1; go_simp
  have g1 : w1.frozen? ⟨w.heap.size, 1, none⟩ = false := by rw [← hw1]; clear hw1; go_simp
  have HB := Lib.hid hb
  clear hw1 hb
  go_wp2
  refine bodyPost_ret (v := .agg #[.string ⟨#[]⟩, .int .i64 0]) (by simp [results, Tryd.results47, go_sem, *]) rfl ⟨rfl, ?_⟩
  iterate 2 (refine Below.setCell ?_ (by exact Nat.le_refl _) _)
  exact HB.out
set_option maxRecDepth 100000 in
theorem fogrow_yes (k : Int) (r : Nat) (w : World) (hF : FogsAt w) (h : inB 1 4 [k] = true) (hr : k = (r : Int)) :
    Calls Tryd.prog 47 #[.int .i64 k] w fun e w' => e = .returned (.agg #[.string (fogNm k), .int .i64 (fogLen k)]) ∧ Below w.heap.size w w' := by
  have h4 := inb_yes h
  have HW := Lib.hid (fwithin k 1 4 true h)
  subst hr
  have r5 : (r : Int) < 5 := by omega
  have HK := Lib.hid (fun w1 (hb : Below w.heap.size w w1) => hF.below hb r (by omega))
  obtain ⟨s, hs⟩ : ∃ s, s = fogNm r := ⟨_, rfl⟩
  obtain ⟨z, hz⟩ : ∃ z, z = fogLen r := ⟨_, rfl⟩
  rw [← hs, ← hz] at HK ⊢
  clear hF h hs hz h4
  go_enter Tryd.func47, Tryd.ntmps47
  go_wp2_with (go_at_call 68; (refine (HW.out _ _ ?_).mono ?_); (· simp); rintro e w1 ⟨rfl, hw1⟩; refine Hid.out ?_)
  refine Lib.hid ?_
  have hb : Below w.heap.size w w1 := by rw [← hw1]; go_grown
  obtain ⟨k0, k1⟩ := HK.out w1 hb
  have d0 : w1.cell? ⟨w.heap.size, 0, none⟩ = some (.string ⟨#[]⟩) := by rw [← hw1]; clear hw1; go_cell
  have d1 : w1.cell? ⟨w.heap.size, 1, none⟩ = some (.int .i64 0) := by rw [← hw1]; clear hw1; go_cell
  have g0 : w1.frozen? ⟨w.heap.size, 0, none⟩ = false := by rw [← hw1]; clear hw1; go_simp
  have g1 : w1.frozen? ⟨w.heap.size, 1, none⟩ = false := by rw [← hw1]; clear hw1; go_simp
  have HB := Lib.hid hb
  clear hw1 hb
  go_wp2
  refine bodyPost_ret (v := .agg #[.string s, .int .i64 z]) (by simp [results, Tryd.results47, go_sem, *]) rfl ⟨rfl, ?_⟩
  iterate 2 (refine Below.setCell ?_ (by exact Nat.le_refl _) _)
  exact HB.out
theorem fogrow_any (k : Int) (w : World) (hF : FogsAt w) :
    Calls Tryd.prog 47 #[.int .i64 k] w fun e w' => e = .returned (.agg #[.string (fogNm k), .int .i64 (fogLen k)]) ∧ Below w.heap.size w w' := by
  cases h : inB 1 4 [k]
  · rw [fogNm_out h, fogLen_out h]
    exact fogrow_no k w h
  · exact fogrow_yes k k.toNat w hF h (by have := inb_yes h; omega)
end Go.Proofs.YtbfhnfoaipaljaaDoor
