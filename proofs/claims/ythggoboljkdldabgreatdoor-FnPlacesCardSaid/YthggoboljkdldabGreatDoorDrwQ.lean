/- The draws of points between two ends. -/
import Derived.Test.YthggoboljkdldabGreatDoorDrwX
import Derived.Deep.RegionHeld3
namespace Go.Proofs.YthggoboljkdldabGreatDoor
open Go.ChangeShapes Go.WideShapes Go.ChangeAt Go.RowKit Pm

theorem from_at (w : World) (B : Nat) (hB : w.heap.size = B) (sv : Value) (zs : List Int) (h : ArgIn .u8 w sv zs) (hz : BytesAre zs) (hl : zs.length ≤ 1048576) :
    Calls Tryz.prog 17 #[sv] w fun e w' => e = .returned (.pointer (some ⟨B, 0, none⟩)) ∧ Src w B sv zs 0 w' ∧ Below w.heap.size w w' := by
  subst hB; exact from_new w sv zs h hz hl
theorem ptsput4 {w : World} {a0 a1 a2 a3 : Addr} {v0 v1 v2 v3 x y : Value} {g : Nat} (n0 : a0.block ≠ g) (n1 : a1.block ≠ g) (n2 : a2.block ≠ g) (n3 : a3.block ≠ g) (h : w.cell? a0 = some v0 ∧ w.cell? a1 = some v1 ∧ w.cell? a2 = some v2 ∧ w.cell? a3 = some v3) : ((w.setCell ⟨g, 0, none⟩ x).setCell ⟨g, 1, none⟩ y).cell? a0 = some v0 ∧ ((w.setCell ⟨g, 0, none⟩ x).setCell ⟨g, 1, none⟩ y).cell? a1 = some v1 ∧ ((w.setCell ⟨g, 0, none⟩ x).setCell ⟨g, 1, none⟩ y).cell? a2 = some v2 ∧ ((w.setCell ⟨g, 0, none⟩ x).setCell ⟨g, 1, none⟩ y).cell? a3 = some v3 := by
  obtain ⟨h0, h1, h2, h3⟩ := h
  exact ⟨cell_apart n0 (cell_apart n0 h0), cell_apart n1 (cell_apart n1 h1), cell_apart n2 (cell_apart n2 h2), cell_apart n3 (cell_apart n3 h3)⟩
theorem ptsdrew4 {w : World} {a0 a1 a2 a3 : Addr} {v0 v1 v2 v3 : Value} (h : w.cell? a0 = some v0 ∧ w.cell? a1 = some v1 ∧ w.cell? a2 = some v2 ∧ w.cell? a3 = some v3) : w.drew.cell? a0 = some v0 ∧ w.drew.cell? a1 = some v1 ∧ w.drew.cell? a2 = some v2 ∧ w.drew.cell? a3 = some v3 := h

def BtwDrawn (w : World) (e : Ending) (w' : World) : Prop := ∃ ax ay bx cy i n : Int, (-1 ≤ ax ∧ ax ≤ 200001) ∧ (-1 ≤ ay ∧ ay ≤ 200001) ∧ (-1 ≤ bx ∧ bx ≤ 200001) ∧ (-1 ≤ cy ∧ cy ≤ 200001) ∧ (-1 ≤ i ∧ i ≤ 14) ∧ (-1 ≤ n ∧ n ≤ 1000001) ∧ e = .returned (.tuple #[.agg #[.int .i64 ax, .int .i64 ay], .agg #[.int .i64 bx, .int .i64 cy], .int .i64 i, .int .i64 n]) ∧ Below w.heap.size w w'
set_option maxRecDepth 100000 in
set_option maxHeartbeats 2000000 in
theorem draw_between (w : World) (sv : Value) (zs : List Int) (h : ArgIn .u8 w sv zs) (hz : BytesAre zs) (hl : zs.length ≤ 1048576) :
    Calls Tryz.prog 5 #[sv] w (BtwDrawn w) := by
  have hA := Lib.hid h
  clear h
  obtain ⟨W, hW⟩ : ∃ W, (w.alloc (.cells #[.int .i64 0, .int .i64 0] 25)).alloc (.cells #[.int .i64 0, .int .i64 0] 25) = W := ⟨_, rfl⟩
  have hWs : W.heap.size = w.heap.size + 2 := by rw [← hW]; simp
  have HW := Lib.hid (show Below w.heap.size w W by rw [← hW]; exact (((Below.refl _ _).alloc (by first | (simp; done) | (simp; omega)) _).alloc (by first | (simp; done) | (simp; omega)) _))
  have R0 := Lib.hid (show Var2 (w.heap.size) (.int .i64 0) (.int .i64 0) W by rw [← hW]; have := Var2.new w (.int .i64 0) (.int .i64 0) 25; have := this.alloc (.cells #[.int .i64 0, .int .i64 0] 25); simpa using this)
  have T0 := Lib.hid (show Var2 (w.heap.size + 1) (.int .i64 0) (.int .i64 0) W by rw [← hW]; have := Var2.new (w.alloc (.cells #[.int .i64 0, .int .i64 0] 25)) (.int .i64 0) (.int .i64 0) 25; simpa using this)
  have HWE := Lib.hid hW
  clear hW
  go_enter Tryz.func5, Tryz.ntmps5
  go_wp2_with (go_at_call 17; rw [HWE.out]; refine (from_at W (w.heap.size + 2) hWs sv zs (hA.out.below HW.out) hz hl).mono ?_; rintro e w1 ⟨rfl, hS1, hb1⟩; refine Hid.out ?_)
  refine Lib.hid ?_
  have S1 := Lib.hid hS1
  have lS1 := hS1.lt
  have R1 := Lib.hid (R0.out.below hb1)
  have lR1 := R1.out.lt
  have T1 := Lib.hid (T0.out.below hb1)
  have lT1 := T1.out.lt
  have HB1 := Lib.hid (HW.out.trans (hb1.mono HW.out.size))
  clear hS1 hb1
  go_wp2_with (go_at_call 18; refine (bent_draw _ _ _ _ _ _ (by omega) S1.out).mono ?_; rintro e w2 ⟨_, ⟨ax, ay, a0, a1, a2, a3, rfl⟩, rfl, hS2, ho2⟩; refine Hid.out ?_)
  refine Lib.hid ?_
  have S2 := Lib.hid hS2
  have R2 := Lib.hid (R1.out.only (by omega) ho2)
  have lR2 := R2.out.lt
  have T2 := Lib.hid (T1.out.only (by omega) ho2)
  have lT2 := T2.out.lt
  have O2 := Lib.hid ho2
  have lS2 := hS2.lt
  clear hS2 ho2 lR1 lT1
  obtain ⟨r0, r1, r2, r3⟩ := R2.out
  obtain ⟨q0, q1, q2, q3⟩ := T2.out
  go_wp2_with (go_at_call 18; refine (bent_draw _ _ _ _ _ _ (by omega) (S2.out.alloc _)).mono ?_; rintro e w3 ⟨_, ⟨bx, cy, b0, b1, b2, b3, rfl⟩, rfl, hS3, ho3⟩; refine Hid.out ?_)
  refine Lib.hid ?_
  have S3 := Lib.hid hS3
  have R3 := Lib.hid ((R2.out.alloc _).only (by omega) ho3)
  have lR3 := R3.out.lt
  have T3 := Lib.hid ((T2.out.alloc _).only (by omega) ho3)
  have lT3 := T3.out.lt
  have A3 := Lib.hid ((Var2.new w2 (.int .i64 ax) (.int .i64 ay) 25).only (by omega) ho3)
  have lA3 := A3.out.lt
  have O3 := Lib.hid ((O2.out.alloc _).trans ho3)
  have lS3 := hS3.lt
  have lw3 := ho3.size
  clear hS3 ho3 r0 r1 r2 r3 q0 q1 q2 q3
  simp only [World.size_alloc] at lw3
  go_wp2_with (go_at_call 19; refine (pick_draw _ _ _ _ _ _ 12 (by omega) (by omega) (by omega) (S3.out.alloc _)).mono ?_; rintro e w4 ⟨_, ⟨c, c0, c1, rfl⟩, rfl, hS4, ho4⟩; refine Hid.out ?_)
  refine Lib.hid ?_
  have S4 := Lib.hid hS4
  have R4 := Lib.hid ((R3.out.alloc _).only (by omega) ho4)
  have lR4 := R4.out.lt
  have T4 := Lib.hid ((T3.out.alloc _).only (by omega) ho4)
  have lT4 := T4.out.lt
  have A4 := Lib.hid ((A3.out.alloc _).only (by omega) ho4)
  have lA4 := A4.out.lt
  have B4 := Lib.hid ((Var2.new w3 (.int .i64 bx) (.int .i64 cy) 25).only (by omega) ho4)
  have lB4 := B4.out.lt
  have O4 := Lib.hid ((O3.out.alloc _).trans ho4)
  clear hS4 ho4
  go_wp2_with (go_at_call 19; refine (pick_draw _ _ _ _ _ _ (c + 1 + 1) (by omega) (by omega) (by omega) S4.out).mono ?_; rintro e w5 ⟨_, ⟨i, i0, i1, rfl⟩, rfl, hS5, ho5⟩; refine Hid.out ?_)
  refine Lib.hid ?_
  have S5 := Lib.hid hS5
  have R5 := Lib.hid (R4.out.only (by omega) ho5)
  have lR5 := R5.out.lt
  have T5 := Lib.hid (T4.out.only (by omega) ho5)
  have lT5 := T5.out.lt
  have A5 := Lib.hid (A4.out.only (by omega) ho5)
  have lA5 := A5.out.lt
  have B5 := Lib.hid (B4.out.only (by omega) ho5)
  have lB5 := B5.out.lt
  have O5 := Lib.hid (O4.out.trans ho5)
  clear hS5 ho5
  go_wp2_with (go_at_call 19; refine (pick_draw _ _ _ _ _ _ 14 (by omega) (by omega) (by omega) S5.out).mono ?_; rintro e w6 ⟨_, ⟨k, k0, k1, rfl⟩, rfl, hS6, ho6⟩; refine Hid.out ?_)
  refine Lib.hid ?_
  have S6 := Lib.hid hS6
  have R6 := Lib.hid (R5.out.only (by omega) ho6)
  have lR6 := R6.out.lt
  have T6 := Lib.hid (T5.out.only (by omega) ho6)
  have lT6 := T6.out.lt
  have A6 := Lib.hid (A5.out.only (by omega) ho6)
  have lA6 := A6.out.lt
  have B6 := Lib.hid (B5.out.only (by omega) ho6)
  have lB6 := B6.out.lt
  have O6 := Lib.hid (O5.out.trans ho6)
  have ac : Below w.heap.size w w6 := Only.below HB1.out O6.out (by omega) (Nat.le_refl _)
  have lS6 := hS6.lt
  clear hS6 ho6
  by_cases e0 : k = 0
  · subst e0
    go_wp2_with (go_at_call 20; refine (among_draw _ _ _ _ _ _ _ _ [0, -1, 1000000, 1000001] (by omega) (by simp) (by simp) (by omega) (lit_at _ _ _ _ (by simp)) (S6.out.alloc _)).mono ?_; rintro e w7 ⟨_, ⟨m, hm, rfl⟩, rfl, hS7, ho7⟩; refine Hid.out ?_)
    refine Lib.hid ?_
    have S7 := Lib.hid hS7
    have R7 := Lib.hid ((R6.out.alloc _).only (by omega) ho7)
    have lR7 := R7.out.lt
    have T7 := Lib.hid ((T6.out.alloc _).only (by omega) ho7)
    have lT7 := T7.out.lt
    have A7 := Lib.hid ((A6.out.alloc _).only (by omega) ho7)
    have lA7 := A7.out.lt
    have B7 := Lib.hid ((B6.out.alloc _).only (by omega) ho7)
    have lB7 := B7.out.lt
    obtain ⟨m0, m1⟩ : -1 ≤ m ∧ m ≤ 1000001 := by simp at hm; omega
    have O7 := Lib.hid ((O6.out.alloc _).trans ho7)
    have ac7 : Below w.heap.size w w7 := Only.below HB1.out O7.out (by omega) (Nat.le_refl _)
    clear hS7 ho7 hm ac
    obtain ⟨f0, f1, f2, f3⟩ := A7.out
    obtain ⟨g0, g1, g2, g3⟩ := B7.out
    obtain ⟨r0, r1, r2, r3⟩ := R7.out
    obtain ⟨q0, q1, q2, q3⟩ := T7.out
    go_wp2_with (fail)
    go_region_held3 (fun w' => w'.cell? ⟨w2.heap.size, 0, none⟩ = some (.int .i64 ax) ∧ w'.cell? ⟨w2.heap.size, 1, none⟩ = some (.int .i64 ay) ∧ w'.cell? ⟨w3.heap.size, 0, none⟩ = some (.int .i64 bx) ∧ w'.cell? ⟨w3.heap.size, 1, none⟩ = some (.int .i64 cy))
      (repeat (first | (with_reducible assumption) | (with_reducible exact ⟨f0, f1, g0, g1⟩) | (with_reducible refine ptsdrew4 ?_) | (with_reducible refine ptsput4 (by simp only; omega) (by simp only; omega) (by simp only; omega) (by simp only; omega) ?_)))
      (fail)
    all_goals
      go_wp2_with (fail)
      refine bodyPost_ret (v := .tuple #[.agg #[.int .i64 ax, .int .i64 ay], .agg #[.int .i64 bx, .int .i64 cy], .int .i64 i, .int .i64 m]) (by simp [results, Tryz.results5, go_sem, *]) rfl ?_
      exact ⟨ax, ay, bx, cy, i, m, ⟨by omega, by omega⟩, ⟨by omega, by omega⟩, ⟨by omega, by omega⟩, ⟨by omega, by omega⟩, ⟨by omega, by omega⟩, ⟨by omega, by omega⟩, rfl, by go_grown⟩
  · have e0' : (k == 0) = false := by simp [e0]
    by_cases e1 : k = 1
    · subst e1
      go_wp2_with (go_at_call 20; refine (among_draw _ _ _ _ _ _ _ _ [-1, c + 1, c + 1 + 1] (by omega) (by simp) (by simp) (by omega) (lit_at _ _ _ _ (by simp)) (S6.out.alloc _)).mono ?_; rintro e w7 ⟨_, ⟨m, hm, rfl⟩, rfl, hS7, ho7⟩; refine Hid.out ?_)
      refine Lib.hid ?_
      have S7 := Lib.hid hS7
      have R7 := Lib.hid ((R6.out.alloc _).only (by omega) ho7)
      have lR7 := R7.out.lt
      have T7 := Lib.hid ((T6.out.alloc _).only (by omega) ho7)
      have lT7 := T7.out.lt
      have A7 := Lib.hid ((A6.out.alloc _).only (by omega) ho7)
      have lA7 := A7.out.lt
      have B7 := Lib.hid ((B6.out.alloc _).only (by omega) ho7)
      have lB7 := B7.out.lt
      obtain ⟨m0, m1⟩ : -1 ≤ m ∧ m ≤ 14 := by simp at hm; omega
      have O7 := Lib.hid ((O6.out.alloc _).trans ho7)
      have ac7 : Below w.heap.size w w7 := Only.below HB1.out O7.out (by omega) (Nat.le_refl _)
      clear hS7 ho7 hm ac
      obtain ⟨f0, f1, f2, f3⟩ := A7.out
      obtain ⟨g0, g1, g2, g3⟩ := B7.out
      obtain ⟨r0, r1, r2, r3⟩ := R7.out
      obtain ⟨q0, q1, q2, q3⟩ := T7.out
      go_wp2_with (fail)
      go_region_held3 (fun w' => w'.cell? ⟨w2.heap.size, 0, none⟩ = some (.int .i64 ax) ∧ w'.cell? ⟨w2.heap.size, 1, none⟩ = some (.int .i64 ay) ∧ w'.cell? ⟨w3.heap.size, 0, none⟩ = some (.int .i64 bx) ∧ w'.cell? ⟨w3.heap.size, 1, none⟩ = some (.int .i64 cy))
        (repeat (first | (with_reducible assumption) | (with_reducible exact ⟨f0, f1, g0, g1⟩) | (with_reducible refine ptsdrew4 ?_) | (with_reducible refine ptsput4 (by simp only; omega) (by simp only; omega) (by simp only; omega) (by simp only; omega) ?_)))
        (fail)
      all_goals
        go_wp2_with (fail)
        refine bodyPost_ret (v := .tuple #[.agg #[.int .i64 ax, .int .i64 ay], .agg #[.int .i64 bx, .int .i64 cy], .int .i64 m, .int .i64 (c + 1)]) (by simp [results, Tryz.results5, go_sem, *]) rfl ?_
        exact ⟨ax, ay, bx, cy, m, (c + 1), ⟨by omega, by omega⟩, ⟨by omega, by omega⟩, ⟨by omega, by omega⟩, ⟨by omega, by omega⟩, ⟨by omega, by omega⟩, ⟨by omega, by omega⟩, rfl, by go_grown⟩
    · have e1' : (k == 1) = false := by simp [e1]
      obtain ⟨f0, f1, f2, f3⟩ := A6.out
      obtain ⟨g0, g1, g2, g3⟩ := B6.out
      obtain ⟨r0, r1, r2, r3⟩ := R6.out
      obtain ⟨q0, q1, q2, q3⟩ := T6.out
      go_wp2_with (fail)
      go_region_held3 (fun w' => w'.cell? ⟨w2.heap.size, 0, none⟩ = some (.int .i64 ax) ∧ w'.cell? ⟨w2.heap.size, 1, none⟩ = some (.int .i64 ay) ∧ w'.cell? ⟨w3.heap.size, 0, none⟩ = some (.int .i64 bx) ∧ w'.cell? ⟨w3.heap.size, 1, none⟩ = some (.int .i64 cy))
        (repeat (first | (with_reducible assumption) | (with_reducible exact ⟨f0, f1, g0, g1⟩) | (with_reducible refine ptsdrew4 ?_) | (with_reducible refine ptsput4 (by simp only; omega) (by simp only; omega) (by simp only; omega) (by simp only; omega) ?_)))
        (fail)
      all_goals
        go_wp2_with (fail)
        refine bodyPost_ret (v := .tuple #[.agg #[.int .i64 ax, .int .i64 ay], .agg #[.int .i64 bx, .int .i64 cy], .int .i64 i, .int .i64 (c + 1)]) (by simp [results, Tryz.results5, go_sem, *]) rfl ?_
        exact ⟨ax, ay, bx, cy, i, (c + 1), ⟨by omega, by omega⟩, ⟨by omega, by omega⟩, ⟨by omega, by omega⟩, ⟨by omega, by omega⟩, ⟨by omega, by omega⟩, ⟨by omega, by omega⟩, rfl, by go_grown⟩
end Go.Proofs.YthggoboljkdldabGreatDoor
