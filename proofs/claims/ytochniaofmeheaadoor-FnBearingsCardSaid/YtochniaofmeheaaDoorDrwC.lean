/- The draws of two points and of two angles. -/
import Derived.Test.YtochniaofmeheaaDoorDrwB
import Derived.Deep.RegionHeld3
namespace Go.Proofs.YtochniaofmeheaaDoor
open Go.ChangeShapes Go.WideShapes Go.ChangeAt Go.RowKit Pm

theorem from_at (w : World) (B : Nat) (hB : w.heap.size = B) (sv : Value) (zs : List Int) (h : ArgIn .u8 w sv zs) (hz : BytesAre zs) (hl : zs.length ≤ 1048576) :
    Calls Tryd.prog 24 #[sv] w fun e w' => e = .returned (.pointer (some ⟨B, 0, none⟩)) ∧ Src w B sv zs 0 w' ∧ Below w.heap.size w w' := by
  subst hB; exact from_new w sv zs h hz hl
theorem pts_apart {w : World} {a0 a1 a2 a3 : Addr} {v0 v1 v2 v3 x y : Value} {g : Nat} (n0 : a0.block ≠ g) (n1 : a1.block ≠ g) (n2 : a2.block ≠ g) (n3 : a3.block ≠ g)
    (h : w.cell? a0 = some v0 ∧ w.cell? a1 = some v1 ∧ w.cell? a2 = some v2 ∧ w.cell? a3 = some v3) :
    ((w.setCell ⟨g, 0, none⟩ x).setCell ⟨g, 1, none⟩ y).cell? a0 = some v0 ∧ ((w.setCell ⟨g, 0, none⟩ x).setCell ⟨g, 1, none⟩ y).cell? a1 = some v1 ∧ ((w.setCell ⟨g, 0, none⟩ x).setCell ⟨g, 1, none⟩ y).cell? a2 = some v2 ∧ ((w.setCell ⟨g, 0, none⟩ x).setCell ⟨g, 1, none⟩ y).cell? a3 = some v3 := by
  obtain ⟨h0, h1, h2, h3⟩ := h
  exact ⟨cell_apart n0 (cell_apart n0 h0), cell_apart n1 (cell_apart n1 h1), cell_apart n2 (cell_apart n2 h2), cell_apart n3 (cell_apart n3 h3)⟩

theorem drewc4 {w : World} {a0 a1 a2 a3 : Addr} {v0 v1 v2 v3 : Value} (h : w.cell? a0 = some v0 ∧ w.cell? a1 = some v1 ∧ w.cell? a2 = some v2 ∧ w.cell? a3 = some v3) : w.drew.cell? a0 = some v0 ∧ w.drew.cell? a1 = some v1 ∧ w.drew.cell? a2 = some v2 ∧ w.drew.cell? a3 = some v3 := h
def TwoPts (lo hi : Int) (w : World) (e : Ending) (w' : World) : Prop := ∃ ax ay bx cy : Int, (lo ≤ ax ∧ ax ≤ hi) ∧ (lo ≤ ay ∧ ay ≤ hi) ∧ (lo ≤ bx ∧ bx ≤ hi) ∧ (lo ≤ cy ∧ cy ≤ hi) ∧ e = .returned (.tuple #[.agg #[.int .i64 ax, .int .i64 ay], .agg #[.int .i64 bx, .int .i64 cy]]) ∧ Below w.heap.size w w'

set_option maxRecDepth 100000 in
set_option maxHeartbeats 1000000 in
theorem draw_bearing (w : World) (sv : Value) (zs : List Int) (h : ArgIn .u8 w sv zs) (hz : BytesAre zs) (hl : zs.length ≤ 1048576) :
    Calls Tryd.prog 9 #[sv] w (TwoPts (-1) 200001 w) := by
  have hA := Lib.hid h
  clear h
  obtain ⟨W, hW⟩ : ∃ W, (w.alloc (.cells #[.int .i64 0, .int .i64 0] 25)).alloc (.cells #[.int .i64 0, .int .i64 0] 25) = W := ⟨_, rfl⟩
  have hWs : W.heap.size = w.heap.size + 2 := by rw [← hW]; simp
  have HW := Lib.hid (show Below w.heap.size w W by rw [← hW]; exact ((Below.refl _ _).alloc (Nat.le_refl _) _).alloc (by simp) _)
  have R0 := Lib.hid (show Var2 w.heap.size (.int .i64 0) (.int .i64 0) W by rw [← hW]; exact (Var2.new _ _ _ _).alloc _)
  have T0 := Lib.hid (show Var2 (w.heap.size + 1) (.int .i64 0) (.int .i64 0) W by rw [← hW]; have := Var2.new (w.alloc (.cells #[.int .i64 0, .int .i64 0] 25)) (.int .i64 0) (.int .i64 0) 25; simpa using this)
  have HWE := Lib.hid hW
  clear hW
  go_enter Tryd.func9, Tryd.ntmps9
  go_wp2_with (go_at_call 24; rw [HWE.out]; refine (from_at W (w.heap.size + 2) hWs sv zs (hA.out.below HW.out) hz hl).mono ?_; rintro e w1 ⟨rfl, hS1, hb1⟩; refine Hid.out ?_)
  refine Lib.hid ?_
  have S1 := Lib.hid hS1
  have lS1 := hS1.lt
  have R1 := Lib.hid (R0.out.below hb1)
  have T1 := Lib.hid (T0.out.below hb1)
  have lR1 := R1.out.lt
  have lT1 := T1.out.lt
  have HB1 := Lib.hid (HW.out.trans (hb1.mono HW.out.size))
  clear hS1 hb1
  go_wp2_with (go_at_call 25; refine (bent_draw _ _ _ _ _ _ (by omega) S1.out).mono ?_; rintro e w2 ⟨_, ⟨ax, ay, a0, a1, a2, a3, rfl⟩, rfl, hS2, ho2⟩; refine Hid.out ?_)
  refine Lib.hid ?_
  have S2 := Lib.hid hS2
  have R2 := Lib.hid (R1.out.only (by omega) ho2)
  have lR2 := R2.out.lt
  have T2 := Lib.hid (T1.out.only (by omega) ho2)
  have lT2 := T2.out.lt
  have O2 := Lib.hid ho2
  have lS2 := hS2.lt
  clear hS2 ho2 lR1 lT1
  obtain ⟨r0, r1, r2, r3⟩ := R2.out
  obtain ⟨q0, q1, q2, q3⟩ := T2.out
  go_wp2_with (go_at_call 25; refine (bent_draw _ _ _ _ _ _ (by omega) (S2.out.alloc _)).mono ?_; rintro e w3 ⟨_, ⟨bx, cy, b0, b1, b2, b3, rfl⟩, rfl, hS3, ho3⟩; refine Hid.out ?_)
  refine Lib.hid ?_
  have S3 := Lib.hid hS3
  have R3 := Lib.hid ((R2.out.alloc _).only (by omega) ho3)
  have lR3 := R3.out.lt
  have T3 := Lib.hid ((T2.out.alloc _).only (by omega) ho3)
  have lT3 := T3.out.lt
  have A3 := Lib.hid ((Var2.new w2 (.int .i64 ax) (.int .i64 ay) 25).only (by omega) ho3)
  have lA3 := A3.out.lt
  have O3 := Lib.hid ((O2.out.alloc _).trans ho3)
  have lS3 := hS3.lt
  have lw3 := ho3.size
  clear hS3 ho3 r0 r1 r2 r3 q0 q1 q2 q3
  simp only [World.size_alloc] at lw3
  go_wp2_with (go_at_call 26; refine (pick_draw _ _ _ _ _ _ 5 (by omega) (by omega) (by omega) (S3.out.alloc _)).mono ?_; rintro e w4 ⟨_, ⟨c, c0', c1', rfl⟩, rfl, hS4, ho4⟩; refine Hid.out ?_)
  refine Lib.hid ?_
  have S4 := Lib.hid hS4
  have R4 := Lib.hid ((R3.out.alloc _).only (by omega) ho4)
  have lR4 := R4.out.lt
  have T4 := Lib.hid ((T3.out.alloc _).only (by omega) ho4)
  have lT4 := T4.out.lt
  have A4 := Lib.hid ((A3.out.alloc _).only (by omega) ho4)
  have lA4 := A4.out.lt
  have B4 := Lib.hid ((Var2.new w3 (.int .i64 bx) (.int .i64 cy) 25).only (by omega) ho4)
  have lB4 := B4.out.lt
  have O4 := Lib.hid ((O3.out.alloc _).trans ho4)
  have ac : Below w.heap.size w w4 := Only.below HB1.out O4.out (by omega) (Nat.le_refl _)
  clear hS4 ho4
  by_cases e0 : c = 0
  · subst e0
    obtain ⟨f0, f1, f2, f3⟩ := A4.out
    obtain ⟨g0, g1, g2, g3⟩ := B4.out
    obtain ⟨r0, r1, r2, r3⟩ := R4.out
    obtain ⟨q0, q1, q2, q3⟩ := T4.out
    go_wp2_with (fail)
    have B5 := Lib.hid (B4.out.set0 (.int .i64 ax))
    have A5 := Lib.hid (A4.out.put (g := w3.heap.size) (j := 0) (by omega) (.int .i64 ax))
    have R5 := Lib.hid (R4.out.put (g := w3.heap.size) (j := 0) (by omega) (.int .i64 ax))
    have T5 := Lib.hid (T4.out.put (g := w3.heap.size) (j := 0) (by omega) (.int .i64 ax))
    have ac5 := (ac.setCell (p := ⟨w3.heap.size, 0, none⟩) (by simp only; omega) (.int .i64 ax))
    generalize (w4.setCell ⟨w3.heap.size, 0, none⟩ (.int .i64 ax)) = w5 at *
    clear f0 f1 f2 f3 g0 g1 g2 g3 r0 r1 r2 r3 q0 q1 q2 q3
    obtain ⟨f0, f1, f2, f3⟩ := A5.out
    obtain ⟨g0, g1, g2, g3⟩ := B5.out
    obtain ⟨r0, r1, r2, r3⟩ := R5.out
    obtain ⟨q0, q1, q2, q3⟩ := T5.out
    go_region_held3 (fun w' => w'.cell? ⟨w2.heap.size, 0, none⟩ = some (.int .i64 ax) ∧ w'.cell? ⟨w2.heap.size, 1, none⟩ = some (.int .i64 ay) ∧ w'.cell? ⟨w3.heap.size, 0, none⟩ = some (.int .i64 ax) ∧ w'.cell? ⟨w3.heap.size, 1, none⟩ = some (.int .i64 cy))
      (repeat (first | (with_reducible assumption) | (with_reducible exact ⟨f0, f1, g0, g1⟩) | (with_reducible refine drewc4 ?_) | (with_reducible refine pts_apart (by simp only; omega) (by simp only; omega) (by simp only; omega) (by simp only; omega) ?_)))
      (fail)
    all_goals
      go_wp2_with (fail)
      refine bodyPost_ret (v := .tuple #[.agg #[.int .i64 ax, .int .i64 ay], .agg #[.int .i64 ax, .int .i64 cy]]) (by simp [results, Tryd.results9, go_sem, *]) rfl ?_
      exact ⟨ax, ay, ax, cy, ⟨by omega, by omega⟩, ⟨by omega, by omega⟩, ⟨by omega, by omega⟩, ⟨by omega, by omega⟩, rfl, by go_grown⟩
  · have e0' : (c == 0) = false := by simp [e0]
    by_cases e1 : c = 1
    · subst e1
      obtain ⟨f0, f1, f2, f3⟩ := A4.out
      obtain ⟨g0, g1, g2, g3⟩ := B4.out
      obtain ⟨r0, r1, r2, r3⟩ := R4.out
      obtain ⟨q0, q1, q2, q3⟩ := T4.out
      go_wp2_with (fail)
      have B5 := Lib.hid (B4.out.set1 (.int .i64 ay))
      have A5 := Lib.hid (A4.out.put (g := w3.heap.size) (j := 1) (by omega) (.int .i64 ay))
      have R5 := Lib.hid (R4.out.put (g := w3.heap.size) (j := 1) (by omega) (.int .i64 ay))
      have T5 := Lib.hid (T4.out.put (g := w3.heap.size) (j := 1) (by omega) (.int .i64 ay))
      have ac5 := (ac.setCell (p := ⟨w3.heap.size, 1, none⟩) (by simp only; omega) (.int .i64 ay))
      generalize (w4.setCell ⟨w3.heap.size, 1, none⟩ (.int .i64 ay)) = w5 at *
      clear f0 f1 f2 f3 g0 g1 g2 g3 r0 r1 r2 r3 q0 q1 q2 q3
      obtain ⟨f0, f1, f2, f3⟩ := A5.out
      obtain ⟨g0, g1, g2, g3⟩ := B5.out
      obtain ⟨r0, r1, r2, r3⟩ := R5.out
      obtain ⟨q0, q1, q2, q3⟩ := T5.out
      go_region_held3 (fun w' => w'.cell? ⟨w2.heap.size, 0, none⟩ = some (.int .i64 ax) ∧ w'.cell? ⟨w2.heap.size, 1, none⟩ = some (.int .i64 ay) ∧ w'.cell? ⟨w3.heap.size, 0, none⟩ = some (.int .i64 bx) ∧ w'.cell? ⟨w3.heap.size, 1, none⟩ = some (.int .i64 ay))
        (repeat (first | (with_reducible assumption) | (with_reducible exact ⟨f0, f1, g0, g1⟩) | (with_reducible refine drewc4 ?_) | (with_reducible refine pts_apart (by simp only; omega) (by simp only; omega) (by simp only; omega) (by simp only; omega) ?_)))
        (fail)
      all_goals
        go_wp2_with (fail)
        refine bodyPost_ret (v := .tuple #[.agg #[.int .i64 ax, .int .i64 ay], .agg #[.int .i64 bx, .int .i64 ay]]) (by simp [results, Tryd.results9, go_sem, *]) rfl ?_
        exact ⟨ax, ay, bx, ay, ⟨by omega, by omega⟩, ⟨by omega, by omega⟩, ⟨by omega, by omega⟩, ⟨by omega, by omega⟩, rfl, by go_grown⟩
    · have e1' : (c == 1) = false := by simp [e1]
      by_cases e2 : c = 2
      · subst e2
        obtain ⟨f0, f1, f2, f3⟩ := A4.out
        obtain ⟨g0, g1, g2, g3⟩ := B4.out
        obtain ⟨r0, r1, r2, r3⟩ := R4.out
        obtain ⟨q0, q1, q2, q3⟩ := T4.out
        go_wp2_with (fail)
        have B5 := Lib.hid ((B4.out.set0 (.int .i64 ax)).set1 (.int .i64 ay))
        have A5 := Lib.hid ((A4.out.put (g := w3.heap.size) (j := 0) (by omega) (.int .i64 ax)).put (g := w3.heap.size) (j := 1) (by omega) (.int .i64 ay))
        have R5 := Lib.hid ((R4.out.put (g := w3.heap.size) (j := 0) (by omega) (.int .i64 ax)).put (g := w3.heap.size) (j := 1) (by omega) (.int .i64 ay))
        have T5 := Lib.hid ((T4.out.put (g := w3.heap.size) (j := 0) (by omega) (.int .i64 ax)).put (g := w3.heap.size) (j := 1) (by omega) (.int .i64 ay))
        have ac5 := ((ac.setCell (p := ⟨w3.heap.size, 0, none⟩) (by simp only; omega) (.int .i64 ax)).setCell (p := ⟨w3.heap.size, 1, none⟩) (by simp only; omega) (.int .i64 ay))
        generalize ((w4.setCell ⟨w3.heap.size, 0, none⟩ (.int .i64 ax)).setCell ⟨w3.heap.size, 1, none⟩ (.int .i64 ay)) = w5 at *
        clear f0 f1 f2 f3 g0 g1 g2 g3 r0 r1 r2 r3 q0 q1 q2 q3
        obtain ⟨f0, f1, f2, f3⟩ := A5.out
        obtain ⟨g0, g1, g2, g3⟩ := B5.out
        obtain ⟨r0, r1, r2, r3⟩ := R5.out
        obtain ⟨q0, q1, q2, q3⟩ := T5.out
        go_region_held3 (fun w' => w'.cell? ⟨w2.heap.size, 0, none⟩ = some (.int .i64 ax) ∧ w'.cell? ⟨w2.heap.size, 1, none⟩ = some (.int .i64 ay) ∧ w'.cell? ⟨w3.heap.size, 0, none⟩ = some (.int .i64 ax) ∧ w'.cell? ⟨w3.heap.size, 1, none⟩ = some (.int .i64 ay))
          (repeat (first | (with_reducible assumption) | (with_reducible exact ⟨f0, f1, g0, g1⟩) | (with_reducible refine drewc4 ?_) | (with_reducible refine pts_apart (by simp only; omega) (by simp only; omega) (by simp only; omega) (by simp only; omega) ?_)))
          (fail)
        all_goals
          go_wp2_with (fail)
          refine bodyPost_ret (v := .tuple #[.agg #[.int .i64 ax, .int .i64 ay], .agg #[.int .i64 ax, .int .i64 ay]]) (by simp [results, Tryd.results9, go_sem, *]) rfl ?_
          exact ⟨ax, ay, ax, ay, ⟨by omega, by omega⟩, ⟨by omega, by omega⟩, ⟨by omega, by omega⟩, ⟨by omega, by omega⟩, rfl, by go_grown⟩
      · have e2' : (c == 2) = false := by simp [e2]
        obtain ⟨f0, f1, f2, f3⟩ := A4.out
        obtain ⟨g0, g1, g2, g3⟩ := B4.out
        obtain ⟨r0, r1, r2, r3⟩ := R4.out
        obtain ⟨q0, q1, q2, q3⟩ := T4.out
        go_wp2_with (fail)
        clear f0 f1 f2 f3 g0 g1 g2 g3 r0 r1 r2 r3 q0 q1 q2 q3
        have A5 := A4
        have B5 := B4
        have R5 := R4
        have T5 := T4
        have ac5 := ac
        obtain ⟨f0, f1, f2, f3⟩ := A5.out
        obtain ⟨g0, g1, g2, g3⟩ := B5.out
        obtain ⟨r0, r1, r2, r3⟩ := R5.out
        obtain ⟨q0, q1, q2, q3⟩ := T5.out
        go_region_held3 (fun w' => w'.cell? ⟨w2.heap.size, 0, none⟩ = some (.int .i64 ax) ∧ w'.cell? ⟨w2.heap.size, 1, none⟩ = some (.int .i64 ay) ∧ w'.cell? ⟨w3.heap.size, 0, none⟩ = some (.int .i64 bx) ∧ w'.cell? ⟨w3.heap.size, 1, none⟩ = some (.int .i64 cy))
          (repeat (first | (with_reducible assumption) | (with_reducible exact ⟨f0, f1, g0, g1⟩) | (with_reducible refine drewc4 ?_) | (with_reducible refine pts_apart (by simp only; omega) (by simp only; omega) (by simp only; omega) (by simp only; omega) ?_)))
          (fail)
        all_goals
          go_wp2_with (fail)
          refine bodyPost_ret (v := .tuple #[.agg #[.int .i64 ax, .int .i64 ay], .agg #[.int .i64 bx, .int .i64 cy]]) (by simp [results, Tryd.results9, go_sem, *]) rfl ?_
          exact ⟨ax, ay, bx, cy, ⟨by omega, by omega⟩, ⟨by omega, by omega⟩, ⟨by omega, by omega⟩, ⟨by omega, by omega⟩, rfl, by go_grown⟩


def TwoAng (w : World) (e : Ending) (w' : World) : Prop := ∃ a b : Int, (-9223372036854775808 ≤ a ∧ a ≤ 9223372036854775807) ∧ (-9223372036854775808 ≤ b ∧ b ≤ 9223372036854775807) ∧ e = .returned (.tuple #[.int .i64 a, .int .i64 b]) ∧ Below w.heap.size w w'
theorem draw_turn (w : World) (sv : Value) (zs : List Int) (h : ArgIn .u8 w sv zs) (hz : BytesAre zs) (hl : zs.length ≤ 1048576) :
    Calls Tryd.prog 15 #[sv] w (TwoAng w) := by
  have H0 := Lib.hid (from_new w sv zs h hz hl)
  clear h
  go_enter Tryd.func15, Tryd.ntmps15
  go_wp2_with (go_at_call 24; refine H0.out.mono ?_; rintro e w1 ⟨rfl, hS1, hb1⟩; refine Hid.out ?_)
  refine Lib.hid ?_
  have S1 := Lib.hid hS1
  have HB1 := Lib.hid hb1
  clear hS1 hb1
  go_wp2_with (go_at_call 38; refine (angle_draw _ _ _ _ _ _ (by omega) S1.out).mono ?_; rintro e w2 ⟨_, ⟨a, a0, a1, rfl⟩, rfl, hS2, ho2⟩; refine Hid.out ?_)
  refine Lib.hid ?_
  have S2 := Lib.hid hS2
  have O2 := Lib.hid ho2
  have BA := Lib.hid (And.intro a0 a1)
  clear hS2 ho2 a0 a1
  go_wp2_with (go_at_call 38; refine (angle_draw _ _ _ _ _ _ (by omega) S2.out).mono ?_; rintro e w3 ⟨_, ⟨b, b0, b1, rfl⟩, rfl, hS3, ho3⟩; refine Hid.out ?_)
  refine Lib.hid ?_
  have O3 := Lib.hid (O2.out.trans ho3)
  have BB := Lib.hid (And.intro b0 b1)
  clear hS3 ho3 b0 b1
  go_wp2_with (fail)
  go_ret2
  exact ⟨a, b, BA.out, BB.out, rfl, Only.below HB1.out O3.out (Nat.le_refl _) (Nat.le_refl _)⟩
end Go.Proofs.YtochniaofmeheaaDoor
