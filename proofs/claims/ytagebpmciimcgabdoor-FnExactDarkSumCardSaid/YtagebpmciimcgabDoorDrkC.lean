/- The program's closures over a season; what is cleared in the end. -/
import Derived.Test.YtagebpmciimcgabDoorDrkI
import Derived.Defers
namespace Go.Proofs.YtagebpmciimcgabDoor
open Go.ChangeShapes Go.WideShapes Go.ChangeAt Go.RowKit Pm

theorem sumclos (day v s : Int) (A : Nat) (W : World) (hc : W.cell? ⟨A, 0, none⟩ = some (.int .i64 s)) (hz : W.frozen? ⟨A, 0, none⟩ = false) (s0 : 0 ≤ s) (s1 : s ≤ 1000000) (v0 : 0 ≤ v) (v1 : v ≤ 1440) :
    Calls Tryd.prog 59 (#[.int .i64 day, .int .i64 v] ++ #[.pointer (some ⟨A, 0, none⟩)]) W fun e W' => e = .returned (.tuple #[]) ∧ W' = W.setCell ⟨A, 0, none⟩ (.int .i64 (s + v)) := by
  have hb := World.block_lt_of_cell? _ _ hc
  go_enter Tryd.func59, Tryd.ntmps59
  go_wp2
  go_end0
  exact ⟨rfl, rfl⟩
theorem longclos_yes (day v m d : Int) (A B : Nat) (W : World) (ca : W.cell? ⟨A, 0, none⟩ = some (.int .i64 d)) (cb : W.cell? ⟨B, 0, none⟩ = some (.int .i64 m)) (za : W.frozen? ⟨A, 0, none⟩ = false) (zb : W.frozen? ⟨B, 0, none⟩ = false) (hab : A ≠ B) (h : m < v) :
    Calls Tryd.prog 60 (#[.int .i64 day, .int .i64 v] ++ #[.pointer (some ⟨B, 0, none⟩), .pointer (some ⟨A, 0, none⟩)]) W fun e W' => e = .returned (.tuple #[]) ∧ W' = (W.setCell ⟨A, 0, none⟩ (.int .i64 day)).setCell ⟨B, 0, none⟩ (.int .i64 v) := by
  have hb1 := World.block_lt_of_cell? _ _ ca
  have hb2 := World.block_lt_of_cell? _ _ cb
  go_enter Tryd.func60, Tryd.ntmps60
  go_wp2
  first | go_end0 | refine bodyPost_ret (results_none rfl _ _ _) rfl ?_
  exact ⟨rfl, rfl⟩
theorem longclos_no (day v m d : Int) (A B : Nat) (W : World) (ca : W.cell? ⟨A, 0, none⟩ = some (.int .i64 d)) (cb : W.cell? ⟨B, 0, none⟩ = some (.int .i64 m)) (h : v ≤ m) :
    Calls Tryd.prog 60 (#[.int .i64 day, .int .i64 v] ++ #[.pointer (some ⟨B, 0, none⟩), .pointer (some ⟨A, 0, none⟩)]) W fun e W' => e = .returned (.tuple #[]) ∧ W' = W := by
  have hb1 := World.block_lt_of_cell? _ _ ca
  have hb2 := World.block_lt_of_cell? _ _ cb
  go_enter Tryd.func60, Tryd.ntmps60
  go_wp2
  first | go_end0 | refine bodyPost_ret (results_none rfl _ _ _) rfl ?_
  exact ⟨rfl, rfl⟩

theorem clear_ok (B C : Nat) (n : Nat) (u : FrameMode) (W : World) (hc : W.cell? ⟨B, 0, none⟩ = some (.int .i64 0)) :
    CallsD Tryd.prog 57 #[.pointer (some ⟨B, 0, none⟩), .slice (some ⟨C, 0, none⟩) n n] u W fun e u' W' => u' = u ∧ (e = .returned (.tuple #[]) ∧ W' = W) := by
  have hb := World.block_lt_of_cell? _ _ hc
  go_enter_d Tryd.func57, Tryd.ntmps57
  go_wp2
  first | go_end0 | refine bodyPost_ret (results_none rfl _ _ _) rfl ?_
  exact ⟨rfl, rfl⟩
theorem clear_bad1 (A B C : Nat) (u : FrameMode) (x k : Int) (W : World) (hc : W.cell? ⟨B, 0, none⟩ = some (.int .i64 k)) (hk : (k == 0) = false) (ha : W.cell? ⟨A, 0, none⟩ = some (.int .i64 x)) (za : W.frozen? ⟨A, 0, none⟩ = false)
    (h0 : W.cell? ⟨C, 0, none⟩ = some (.pointer (some ⟨A, 0, none⟩))) :
    CallsD Tryd.prog 57 #[.pointer (some ⟨B, 0, none⟩), .slice (some ⟨C, 0, none⟩) 1 1] u W fun e u' W' => u' = u ∧ (e = .returned (.tuple #[]) ∧ W' = W.setCell ⟨A, 0, none⟩ (.int .i64 0)) := by
  have hb := World.block_lt_of_cell? _ _ hc
  have hb1 := World.block_lt_of_cell? _ _ ha
  have hb2 := World.block_lt_of_cell? _ _ h0
  go_enter_d Tryd.func57, Tryd.ntmps57
  go_wp2
  go_rounds 2
  first | go_end0 | refine bodyPost_ret (results_none rfl _ _ _) rfl ?_
  exact ⟨rfl, rfl⟩
theorem clear_bad2 (A1 A2 B C : Nat) (u : FrameMode) (x y k : Int) (W : World) (hc : W.cell? ⟨B, 0, none⟩ = some (.int .i64 k)) (hk : (k == 0) = false) (ha : W.cell? ⟨A1, 0, none⟩ = some (.int .i64 x)) (za : W.frozen? ⟨A1, 0, none⟩ = false)
    (hb : W.cell? ⟨A2, 0, none⟩ = some (.int .i64 y)) (zb : W.frozen? ⟨A2, 0, none⟩ = false) (n1 : A1 ≠ A2) (n2 : A1 ≠ C) (n3 : A2 ≠ C)
    (h0 : W.cell? ⟨C, 0, none⟩ = some (.pointer (some ⟨A1, 0, none⟩))) (h1 : W.cell? ⟨C, 1, none⟩ = some (.pointer (some ⟨A2, 0, none⟩))) :
    CallsD Tryd.prog 57 #[.pointer (some ⟨B, 0, none⟩), .slice (some ⟨C, 0, none⟩) 2 2] u W fun e u' W' => u' = u ∧ (e = .returned (.tuple #[]) ∧ W' = (W.setCell ⟨A1, 0, none⟩ (.int .i64 0)).setCell ⟨A2, 0, none⟩ (.int .i64 0)) := by
  have hb0 := World.block_lt_of_cell? _ _ hc
  have hb1 := World.block_lt_of_cell? _ _ ha
  have hb2 := World.block_lt_of_cell? _ _ h0
  have hb3 := World.block_lt_of_cell? _ _ hb
  go_enter_d Tryd.func57, Tryd.ntmps57
  go_wp2
  go_rounds 3
  first | go_end0 | refine bodyPost_ret (results_none rfl _ _ _) rfl ?_
  exact ⟨rfl, rfl⟩
end Go.Proofs.YtagebpmciimcgabDoor
