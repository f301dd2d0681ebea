/- Fog signals: the model's names, lengths, what is valid. -/
import Derived.Test.YtbfhnfoaipaljaaDoorFogM
import Derived.Test.YtbfhnfoaipaljaaDoorClx
namespace Go.Proofs.YtbfhnfoaipaljaaDoor
open Go.ChangeShapes Go.WideShapes Go.ChangeAt Go.RowKit Pm

theorem sfkind_any (k : Int) (w : World) :
    Calls Tryd.prog 45 #[.int .i64 k] w fun e w' => e = .returned (.bool (inB 1 4 [k])) ∧ w = w' := by
  go_enter Tryd.func45, Tryd.ntmps45
  go_wp2_with (go_at_call 65; refine (in_any _ _ _ _).mono ?_; rintro e w' ⟨rfl, rfl⟩)
  go_ret
  exact ⟨rfl, rfl⟩
set_option maxRecDepth 100000 in
theorem sfogname_any (k : Int) (w : World) :
    Calls Tryd.prog 15 #[.int .i64 k] w fun e w' => e = .returned (.string (fogNm k)) ∧ Below w.heap.size w w' := by
  cases h : inB 1 4 [k]
  · rw [fogNm_out h]
    have HI := Lib.hid (fun w => h ▸ sfkind_any k w)
    clear h
    go_enter Tryd.func15, Tryd.ntmps15
    go_wp2_with (go_at_call 45; refine (HI.out _).mono ?_; rintro e w' ⟨rfl, rfl⟩)
    go_ret
    exact ⟨rfl, by go_grown⟩
  · have hk := kind_four h
    clear h
    rcases hk with rfl | rfl | rfl | rfl
    all_goals
      go_enter Tryd.func15, Tryd.ntmps15
      go_wp2_with (first | (go_at_call 45; refine (sfkind_any _ _).mono ?_; rintro e w' ⟨rfl, rfl⟩) | (go_at_call 46; go_in))
      go_ret
      exact ⟨rfl, by go_grown⟩
set_option maxRecDepth 100000 in
theorem sfoglen_any (k : Int) (w : World) (h : inB 1 4 [k] = true) :
    Calls Tryd.prog 51 #[.int .i64 k] w fun e w' => e = .returned (.int .i64 (fogLen k)) ∧ Below w.heap.size w w' := by
  have hk := kind_four h
  clear h
  rcases hk with rfl | rfl | rfl | rfl
  all_goals
    go_enter Tryd.func51, Tryd.ntmps51
    go_wp2
    go_ret
    exact ⟨rfl, by go_grown⟩
theorem sfogshape_any (B : Nat) (k b : Int) (w : World) (c0 : w.cell? ⟨B, 0, none⟩ = some (.int .i64 k)) (c1 : w.cell? ⟨B, 1, none⟩ = some (.int .i64 b)) :
    Calls Tryd.prog 52 #[.pointer (some ⟨B, 0, none⟩)] w fun e w' => e = .returned (.bool (fogShape k b)) ∧ w = w' := by
  have HK := fun w => sfkind_any k w
  have HB := Lib.hid (fun w => in_any b 1 6 w)
  unfold fogShape
  generalize inB 1 6 [b] = y at *
  cases hx : inB 1 4 [k]
  all_goals
    rw [hx] at HK
    have HK := Lib.hid HK
    clear hx
    go_enter Tryd.func52, Tryd.ntmps52
    go_wp2_with (first | (go_at_call 45; refine (HK.out _).mono ?_; rintro e w' ⟨rfl, rfl⟩) | (go_at_call 65; refine (HB.out _).mono ?_; rintro e w' ⟨rfl, rfl⟩))
    go_ret
    exact ⟨rfl, rfl⟩
set_option maxRecDepth 100000 in
theorem sfogleast_any (B : Nat) (k b : Int) (w : World) (c0 : w.cell? ⟨B, 0, none⟩ = some (.int .i64 k)) (c1 : w.cell? ⟨B, 1, none⟩ = some (.int .i64 b)) (h : fogShape k b = true) :
    Calls Tryd.prog 53 #[.pointer (some ⟨B, 0, none⟩)] w fun e w' => e = .returned (.int .i64 (fogLeast k b)) ∧ Below w.heap.size w w' := by
  obtain ⟨h1, h2, h3⟩ := shape_yes h
  obtain ⟨l1, l2⟩ := least_bd h
  have HL := Lib.hid (fun w => sfoglen_any k w h1)
  have hb2 : IntKind.i64.wrap (2 * b) = 2 * b := IntWalk.i64_in _ ⟨by omega, by omega⟩
  have hbd := fogLen_bd k
  unfold fogLeast at *
  have e1 : IntKind.i64.wrap (2 * b * fogLen k) = 2 * b * fogLen k := IntWalk.i64_in _ ⟨by omega, by omega⟩
  generalize fogLen k = z at *
  clear h h1
  have b0 : Below w.heap.size w w := Below.refl _ _
  go_enter Tryd.func53, Tryd.ntmps53
  go_wp2
  obtain ⟨S, hcl, hS0, k0, k1, k2, k3, kB⟩ := clx4 c0 c1 c0 c1 b0
  have hne : Nonempty (Clx S) := ⟨⟨_, hS0⟩⟩
  clear c0 c1 b0
  refine wp_region_clx S (by kernel_rfl) (by kernel_rfl) hS0 ?_
  repeat (go_big_quiet_step ((go_at_call 51; exact Clx.call hcl _ (HL.out _))))
  refine wpQuiet_nil ?_
  intro _ hw'
  obtain ⟨p, rfl⟩ := hw'
  go_wp2_with (fail)
  go_ret
  exact ⟨rfl, kB p⟩
/-- Four cells of a fog signal. -/
def FogCells (w : World) (B : Nat) (k b p q : Int) : Prop := w.cell? ⟨B, 0, none⟩ = some (.int .i64 k) ∧ w.cell? ⟨B, 1, none⟩ = some (.int .i64 b) ∧ w.cell? ⟨B, 2, none⟩ = some (.int .i64 p) ∧ w.cell? ⟨B, 3, none⟩ = some (.int .i64 q)
theorem FogCells.below {w w' : World} {B : Nat} {k b p q : Int} (h : FogCells w B k b p q) (hb : Below w.heap.size w w') : FogCells w' B k b p q :=
  ⟨cell_below h.1 hb, cell_below h.2.1 hb, cell_below h.2.2.1 hb, cell_below h.2.2.2 hb⟩
theorem FogCells.new (w : World) (T : TypeId) (n : Nat) (hn : w.heap.size = n) (k b p q : Int) : FogCells (w.alloc (.cells #[.int .i64 k, .int .i64 b, .int .i64 p, .int .i64 q] T)) n k b p q := by
  subst hn
  exact ⟨by simp, by simp, by simp, by simp⟩
set_option maxRecDepth 100000 in
set_option maxHeartbeats 1000000 in
theorem sfogok_any (B : Nat) (k b p q : Int) (w : World) (h : FogCells w B k b p q) :
    Calls Tryd.prog 48 #[.pointer (some ⟨B, 0, none⟩)] w fun e w' => e = .returned (.bool (fogOk k b p q)) ∧ Below w.heap.size w w' := by
  obtain ⟨c0, c1, c2, c3⟩ := h
  have b0 : Below w.heap.size w w := Below.refl _ _
  have HQ := Lib.hid (fun w => below_eq (in_any q 60 140 w))
  have HS := fun w c0 c1 => below_eq (sfogshape_any B k b w c0 c1)
  have HL := fun w c0 c1 => sfogleast_any B k b w c0 c1
  have HP := fun w => below_eq (in_any p (fogLeast k b) 1200 w)
  unfold fogOk fogPow fogPer
  cases h1 : fogShape k b
  · rw [h1] at HS
    have HS := Lib.hid HS
    clear h1 HL HP
    go_enter Tryd.func48, Tryd.ntmps48
    go_wp2
    obtain ⟨S, hcl, hS0, k0, k1, k2, k3, kB⟩ := clx4 c0 c1 c2 c3 b0
    have hne : Nonempty (Clx S) := ⟨⟨_, hS0⟩⟩
    clear c0 c1 c2 c3 b0
    refine wp_region_clx S (by kernel_rfl) (by kernel_rfl) hS0 ?_
    repeat (go_big_quiet_step ((go_at_call 52; exact Clx.call hcl _ (HS.out _ (k0 _) (k1 _)))))
    refine wpQuiet_nil ?_
    intro _ hw'
    obtain ⟨p, rfl⟩ := hw'
    go_wp2_with (fail)
    go_ret
    exact ⟨rfl, kB p⟩
  · rw [h1] at HS
    replace HL := Lib.hid (fun w c0 c1 => HL w c0 c1 h1)
    have HS := Lib.hid HS
    cases h2 : inB (fogLeast k b) 1200 [p]
    all_goals
      rw [h2] at HP
      have HP := Lib.hid HP
      generalize fogLeast k b = l at *
      generalize inB 60 140 [q] = y at *
      clear h1 h2
      go_enter Tryd.func48, Tryd.ntmps48
      go_wp2
      obtain ⟨S, hcl, hS0, k0, k1, k2, k3, kB⟩ := clx4 c0 c1 c2 c3 b0
      have hne : Nonempty (Clx S) := ⟨⟨_, hS0⟩⟩
      clear c0 c1 c2 c3 b0
      refine wp_region_clx S (by kernel_rfl) (by kernel_rfl) hS0 ?_
      repeat (go_big_quiet_step (first
        | (go_at_call 52; exact Clx.call hcl _ (HS.out _ (k0 _) (k1 _)))
        | (go_at_call 53; exact Clx.call hcl _ (HL.out _ (k0 _) (k1 _)))
        | (go_at_call 65; first | (with_reducible exact Clx.call hcl _ (HP.out _)) | (with_reducible exact Clx.call hcl _ (HQ.out _)))))
      refine wpQuiet_nil ?_
      intro _ hw'
      obtain ⟨p, rfl⟩ := hw'
      go_wp2_with (fail)
      go_ret
      exact ⟨rfl, kB p⟩
theorem svalidfog_any (k b p q : Int) (w : World) :
    Calls Tryd.prog 17 #[.agg #[.int .i64 k, .int .i64 b, .int .i64 p, .int .i64 q]] w fun e w' => e = .returned (.bool (fogOk k b p q)) ∧ Below w.heap.size w w' := by
  have H := Lib.hid (fun w' h => sfogok_any w.heap.size k b p q w' h)
  generalize fogOk k b p q = r at *
  go_enter Tryd.func17, Tryd.ntmps17
  go_wp2_with (go_at_call 48; refine (H.out _ (FogCells.new w _ _ rfl k b p q)).mono ?_; rintro e w1 ⟨rfl, hb⟩; have AC := Lib.hid (Below.next (a := w) (by go_grown) hb); clear hb)
  go_ret
  exact ⟨rfl, AC.out⟩
end Go.Proofs.YtbfhnfoaipaljaaDoor
