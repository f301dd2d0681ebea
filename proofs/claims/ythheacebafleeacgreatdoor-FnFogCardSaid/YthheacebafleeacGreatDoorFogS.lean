/- Fog signals: the model's names, lengths, what is valid. -/
import Derived.Test.YthheacebafleeacGreatDoorFogM
import Derived.Test.YthheacebafleeacGreatDoorClx
namespace Go.Proofs.YthheacebafleeacGreatDoor
open Go.ChangeShapes Go.WideShapes Go.ChangeAt Go.RowKit Pm

set_option maxRecDepth 100000 in
theorem sfoglen_any (k : Int) (w : World) (h : inB 1 4 [k] = true) :
    Calls Tryz.prog 73 #[.int .i64 k] w fun e w' => e = .returned (.int .i64 (fogLen k)) ∧ Below w.heap.size w w' := by
  have hk := kind_four h
  clear h
  rcases hk with rfl | rfl | rfl | rfl
  all_goals
    go_enter Tryz.func73, Tryz.ntmps73
    go_wp2
    go_ret
    exact ⟨rfl, by go_grown⟩
set_option maxRecDepth 100000 in
theorem sfogleast_any (B : Nat) (k b : Int) (w : World) (c0 : w.cell? ⟨B, 0, none⟩ = some (.int .i64 k)) (c1 : w.cell? ⟨B, 1, none⟩ = some (.int .i64 b)) (h : fogShape k b = true) :
    Calls Tryz.prog 59 #[.pointer (some ⟨B, 0, none⟩)] w fun e w' => e = .returned (.int .i64 (fogLeast k b)) ∧ Below w.heap.size w w' := by
  obtain ⟨h1, h2, h3⟩ := shape_yes h
  obtain ⟨l1, l2⟩ := least_bd h
  have HL := Lib.hid (fun w => sfoglen_any k w h1)
  have hb2 : IntKind.i64.wrap (2 * b) = 2 * b := IntWalk.i64_in _ ⟨by omega, by omega⟩
  have hbd := fogLen_bd k
  unfold fogLeast at *
  have e1 : IntKind.i64.wrap (2 * b * fogLen k) = 2 * b * fogLen k := IntWalk.i64_in _ ⟨by omega, by omega⟩
  generalize fogLen k = z at *
  clear h h1
  have b0 : Below w.heap.size w w := Below.refl _ _
  go_enter Tryz.func59, Tryz.ntmps59
  go_wp2
  obtain ⟨S, hcl, hS0, k0, k1, k2, k3, kB⟩ := clx4 c0 c1 c0 c1 b0
  have hne : Nonempty (Clx S) := ⟨⟨_, hS0⟩⟩
  clear c0 c1 b0
  refine wp_region_clx S (by kernel_rfl) (by kernel_rfl) hS0 ?_
  repeat (go_big_quiet_step ((go_at_call 73; exact Clx.call hcl _ (HL.out _))))
  refine wpQuiet_nil ?_
  intro _ hw'
  obtain ⟨p, rfl⟩ := hw'
  go_wp2_with (fail)
  go_ret
  exact ⟨rfl, kB p⟩
/-- Four cells of a fog signal. -/
def FogCells (w : World) (B : Nat) (k b p q : Int) : Prop := w.cell? ⟨B, 0, none⟩ = some (.int .i64 k) ∧ w.cell? ⟨B, 1, none⟩ = some (.int .i64 b) ∧ w.cell? ⟨B, 2, none⟩ = some (.int .i64 p) ∧ w.cell? ⟨B, 3, none⟩ = some (.int .i64 q)
theorem FogCells.below {w w' : World} {B : Nat} {k b p q : Int} (h : FogCells w B k b p q) (hb : Below w.heap.size w w') : FogCells w' B k b p q :=
  ⟨cell_below h.1 hb, cell_below h.2.1 hb, cell_below h.2.2.1 hb, cell_below h.2.2.2 hb⟩
theorem FogCells.new (w : World) (T : TypeId) (n : Nat) (hn : w.heap.size = n) (k b p q : Int) : FogCells (w.alloc (.cells #[.int .i64 k, .int .i64 b, .int .i64 p, .int .i64 q] T)) n k b p q := by
  subst hn
  exact ⟨by simp, by simp, by simp, by simp⟩
end Go.Proofs.YthheacebafleeacGreatDoor
