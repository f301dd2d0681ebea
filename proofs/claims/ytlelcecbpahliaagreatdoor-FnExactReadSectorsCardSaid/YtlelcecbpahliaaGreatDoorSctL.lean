/- A law's own words on slices of sectors: their size, their copy, their comparison. -/
import Derived.Test.YtlelcecbpahliaaGreatDoorSct
import Derived.Deep.RegionHeld3
namespace Go.Proofs.YtlelcecbpahliaaGreatDoor
open Go.ChangeShapes Go.WideShapes Go.ChangeAt Go.RowKit Pm

theorem cell_puts {w : World} {a : Addr} {v x : Value} {b j : Nat} (n : a.block ≠ b) (h : w.cell? a = some v) : (w.setCell ⟨b, j, none⟩ x).cell? a = some v := by
  rw [World.cell?_setCell_other _ _ _ _ (by intro e; exact n (by rw [← e]))]; exact h
theorem cell_swaps {w : World} {a : Addr} {v : Value} {o o' : Obj} (n : a.block ≠ w.heap.size) (h : (w.alloc o).cell? a = some v) : (w.alloc o').cell? a = some v := by
  rw [World.cell?_alloc_old _ _ _ n] at h ⊢; exact h
theorem below_swaps {w0 w : World} {o o' : Obj} (n : w0.heap.size ≤ w.heap.size) (h : Below w0.heap.size w0 (w.alloc o)) : Below w0.heap.size w0 (w.alloc o') := by
  refine ⟨h.os, h.tape, h.output, ?_, ?_⟩
  · have := h.size; simp at this ⊢; omega
  · intro k hk
    have e := h.block k hk
    rw [Below.heap_alloc _ _ _ (by omega)] at e ⊢
    exact e
theorem keepA6s {w0 w : World} {a0 a1 a2 a3 a4 a5 : Addr} {v0 v1 v2 v3 v4 v5 : Value} {o : Obj} (h : w.cell? a0 = some v0 ∧ w.cell? a1 = some v1 ∧ w.cell? a2 = some v2 ∧ w.cell? a3 = some v3 ∧ w.cell? a4 = some v4 ∧ w.cell? a5 = some v5 ∧ Below w0.heap.size w0 w) : (w.alloc o).cell? a0 = some v0 ∧ (w.alloc o).cell? a1 = some v1 ∧ (w.alloc o).cell? a2 = some v2 ∧ (w.alloc o).cell? a3 = some v3 ∧ (w.alloc o).cell? a4 = some v4 ∧ (w.alloc o).cell? a5 = some v5 ∧ Below w0.heap.size w0 (w.alloc o) :=
  keep6 ((Below.refl _ _).alloc (Nat.le_refl _) _) h
theorem keepP6s {w0 w : World} {a0 a1 a2 a3 a4 a5 : Addr} {v0 v1 v2 v3 v4 v5 x y z : Value} {b : Nat} (hB : w0.heap.size ≤ b) (n0 : a0.block ≠ b) (n1 : a1.block ≠ b) (n2 : a2.block ≠ b) (n3 : a3.block ≠ b) (n4 : a4.block ≠ b) (n5 : a5.block ≠ b) (h : w.cell? a0 = some v0 ∧ w.cell? a1 = some v1 ∧ w.cell? a2 = some v2 ∧ w.cell? a3 = some v3 ∧ w.cell? a4 = some v4 ∧ w.cell? a5 = some v5 ∧ Below w0.heap.size w0 w) : (((w.setCell ⟨b, 0, none⟩ x).setCell ⟨b, 1, none⟩ y).setCell ⟨b, 2, none⟩ z).cell? a0 = some v0 ∧ (((w.setCell ⟨b, 0, none⟩ x).setCell ⟨b, 1, none⟩ y).setCell ⟨b, 2, none⟩ z).cell? a1 = some v1 ∧ (((w.setCell ⟨b, 0, none⟩ x).setCell ⟨b, 1, none⟩ y).setCell ⟨b, 2, none⟩ z).cell? a2 = some v2 ∧ (((w.setCell ⟨b, 0, none⟩ x).setCell ⟨b, 1, none⟩ y).setCell ⟨b, 2, none⟩ z).cell? a3 = some v3 ∧ (((w.setCell ⟨b, 0, none⟩ x).setCell ⟨b, 1, none⟩ y).setCell ⟨b, 2, none⟩ z).cell? a4 = some v4 ∧ (((w.setCell ⟨b, 0, none⟩ x).setCell ⟨b, 1, none⟩ y).setCell ⟨b, 2, none⟩ z).cell? a5 = some v5 ∧ Below w0.heap.size w0 (((w.setCell ⟨b, 0, none⟩ x).setCell ⟨b, 1, none⟩ y).setCell ⟨b, 2, none⟩ z) := by
  obtain ⟨h0, h1, h2, h3, h4, h5, hb⟩ := h
  exact ⟨cell_puts n0 (cell_puts n0 (cell_puts n0 h0)), cell_puts n1 (cell_puts n1 (cell_puts n1 h1)), cell_puts n2 (cell_puts n2 (cell_puts n2 h2)), cell_puts n3 (cell_puts n3 (cell_puts n3 h3)), cell_puts n4 (cell_puts n4 (cell_puts n4 h4)), cell_puts n5 (cell_puts n5 (cell_puts n5 h5)), ((hb.setCell hB _).setCell hB _).setCell hB _⟩
theorem keepX6s {w0 w : World} {a0 a1 a2 a3 a4 a5 : Addr} {v0 v1 v2 v3 v4 v5 : Value} {o o' : Obj} (hB : w0.heap.size ≤ w.heap.size) (n0 : a0.block ≠ w.heap.size) (n1 : a1.block ≠ w.heap.size) (n2 : a2.block ≠ w.heap.size) (n3 : a3.block ≠ w.heap.size) (n4 : a4.block ≠ w.heap.size) (n5 : a5.block ≠ w.heap.size) (h : (w.alloc o).cell? a0 = some v0 ∧ (w.alloc o).cell? a1 = some v1 ∧ (w.alloc o).cell? a2 = some v2 ∧ (w.alloc o).cell? a3 = some v3 ∧ (w.alloc o).cell? a4 = some v4 ∧ (w.alloc o).cell? a5 = some v5 ∧ Below w0.heap.size w0 (w.alloc o)) : (w.alloc o').cell? a0 = some v0 ∧ (w.alloc o').cell? a1 = some v1 ∧ (w.alloc o').cell? a2 = some v2 ∧ (w.alloc o').cell? a3 = some v3 ∧ (w.alloc o').cell? a4 = some v4 ∧ (w.alloc o').cell? a5 = some v5 ∧ Below w0.heap.size w0 (w.alloc o') := by
  obtain ⟨h0, h1, h2, h3, h4, h5, hb⟩ := h
  exact ⟨cell_swaps n0 h0, cell_swaps n1 h1, cell_swaps n2 h2, cell_swaps n3 h3, cell_swaps n4 h4, cell_swaps n5 h5, below_swaps hB hb⟩
/-- What is left of a size behind a list of sectors. -/
def SzS (ps : List Sec) (left r : Int) : Prop := r = -1 ∨ (0 ≤ r ∧ r ≤ left ∧ ps.length ≤ left ∧ ∀ i, i < ps.length → (ps.getD i sec0).2.2.size ≤ left)

/-- A copy of a list of sectors in memory of its own. -/
def CopySec (ps : List Sec) (w : World) (e : Ending) (w' : World) : Prop := ∃ v, e = .returned v ∧ OwnSec w' w.heap.size v ps ∧ Below w.heap.size w w'


set_option maxHeartbeats 4000000 in
theorem eqsecs_at (a1 a2 : Option Addr) (c1 c2 : Nat) (ps : List Sec) (w : World) (hn : ps.length ≤ 1048576) (h1 : ArgSec w a1 ps.length ps) (h2 : ArgSec w a2 ps.length ps) :
    Calls Tryz.prog 8 #[.slice a1 ps.length c1, .slice a2 ps.length c2] w fun e w' => e = .returned (.bool true) ∧ Below w.heap.size w w' := by
  by_cases h0 : ps.length = 0
  · have hnil : ps = [] := List.length_eq_zero_iff.1 h0
    subst hnil
    clear h1 h2 h0
    go_enter Tryz.func8, Tryz.ntmps8
    go_wp2
    go_rounds 1
    go_ret
    exact ⟨rfl, Below.refl _ _⟩
  · obtain ⟨b, off, rfl, H1⟩ := h1.2.resolve_left (by intro e; rw [e] at h0; exact h0 rfl)
    obtain ⟨b', off', rfl, H2⟩ := h2.2.resolve_left (by intro e; rw [e] at h0; exact h0 rfl)
    have HC := Lib.hid H1
    have HD := Lib.hid H2
    clear H1 H2 h0 h1 h2
    go_enter Tryz.func8, Tryz.ntmps8
    go_wp2_with (fail)
    go_loopw [5] (fun i wr => ∃ k : Nat, k ≤ ps.length ∧ i = .int .i64 k ∧ Below w.heap.size w wr) (fun i _ => ps.length - (intOf i).toNat)
    case atStart => exact ⟨0, Nat.zero_le _, rfl, by go_grown⟩
    case round =>
      obtain ⟨k, hk, rfl, hbel⟩ := hrel
      by_cases hlt : k < ps.length
      · have hkn : (k : Int) < (ps.length : Int) := by omega
        have e0 := cell_below (HC.out k hlt).1 hbel
        have e1 := cell_below (HC.out k hlt).2.1 hbel
        have e2 := cell_below (HC.out k hlt).2.2 hbel
        have e3 := cell_below (HD.out k hlt).1 hbel
        have e4 := cell_below (HD.out k hlt).2.1 hbel
        have e5 := cell_below (HD.out k hlt).2.2 hbel
        generalize (ps.getD k sec0).1 = x at *
        generalize (ps.getD k sec0).2.1 = y at *
        generalize (ps.getD k sec0).2.2 = s at *
        go_wp2_with (fail)
        go_region_held3 (fun w' => w'.cell? ⟨b, off + k * 3, none⟩ = some (.int .i64 x) ∧ w'.cell? ⟨b, off + k * 3 + 1, none⟩ = some (.int .i64 y) ∧ w'.cell? ⟨b, off + k * 3 + 2, none⟩ = some (.string s) ∧ w'.cell? ⟨b', off' + k * 3, none⟩ = some (.int .i64 x) ∧ w'.cell? ⟨b', off' + k * 3 + 1, none⟩ = some (.int .i64 y) ∧ w'.cell? ⟨b', off' + k * 3 + 2, none⟩ = some (.string s) ∧ Below w.heap.size w w')
          (first | assumption | exact keep6 (by assumption) (by assumption) | exact drew6 (by assumption) | exact keepA6s (by assumption) | exact drew6 (keepA6s (by assumption)) | ((refine keepP6s ?_ ?_ ?_ ?_ ?_ ?_ ?_ (by assumption)) <;> (first | omega | (simp; done) | (simp; omega))) | ((refine keepX6s ?_ ?_ ?_ ?_ ?_ ?_ ?_ (by assumption)) <;> (first | omega | (simp; done) | (simp; omega))) | ((refine drew6 (keepX6s ?_ ?_ ?_ ?_ ?_ ?_ ?_ (by assumption))) <;> (first | omega | (simp; done) | (simp; omega))) | (refine ⟨?_, ?_, ?_, ?_, ?_, ?_, ?_⟩ <;> (first | (go_cell; done) | (go_grown; done))))
          (first
            | (go_at_call 30; refine (eqsec_any _ _ _ _).mono ?_; rintro e w3 ⟨rfl, hb⟩))
        all_goals
          go_wp2
          go_roundw
          case rel => exact ⟨k + 1, by omega, by go_num, keepB6 (by assumption)⟩
          case measure => simp [intOf]; omega
      · have hge : ¬ (k : Int) < (ps.length : Int) := by omega
        have HBE := Lib.hid hbel
        clear hbel
        go_wp2
        go_ret
        exact ⟨rfl, HBE.out⟩
theorem eqsecs_same (v1 v2 : Value) (ps : List Sec) (w : World) (hn : ps.length ≤ 1048576) (h1 : SecAre w v1 ps) (h2 : SecAre w v2 ps) :
    Calls Tryz.prog 8 #[v1, v2] w fun e w' => e = .returned (.bool true) ∧ Below w.heap.size w w' := by
  obtain ⟨a1, c1, rfl, h1⟩ := h1
  obtain ⟨a2, c2, rfl, h2⟩ := h2
  exact eqsecs_at a1 a2 c1 c2 ps w hn h1 h2
end Go.Proofs.YtlelcecbpahliaaGreatDoor
