/- The draws of three points. -/
import Derived.Test.YthggoboljkdldabGreatDoorDrwQ
import Derived.Test.YthggoboljkdldabGreatDoorBtwWM
import Derived.Deep.RegionHeld3
namespace Go.Proofs.YthggoboljkdldabGreatDoor
open Go.ChangeShapes Go.WideShapes Go.ChangeAt Go.RowKit Pm

theorem ptsput6 {w : World} {a0 a1 a2 a3 a4 a5 : Addr} {v0 v1 v2 v3 v4 v5 x y : Value} {g : Nat} (n0 : a0.block ≠ g) (n1 : a1.block ≠ g) (n2 : a2.block ≠ g) (n3 : a3.block ≠ g) (n4 : a4.block ≠ g) (n5 : a5.block ≠ g) (h : w.cell? a0 = some v0 ∧ w.cell? a1 = some v1 ∧ w.cell? a2 = some v2 ∧ w.cell? a3 = some v3 ∧ w.cell? a4 = some v4 ∧ w.cell? a5 = some v5) : ((w.setCell ⟨g, 0, none⟩ x).setCell ⟨g, 1, none⟩ y).cell? a0 = some v0 ∧ ((w.setCell ⟨g, 0, none⟩ x).setCell ⟨g, 1, none⟩ y).cell? a1 = some v1 ∧ ((w.setCell ⟨g, 0, none⟩ x).setCell ⟨g, 1, none⟩ y).cell? a2 = some v2 ∧ ((w.setCell ⟨g, 0, none⟩ x).setCell ⟨g, 1, none⟩ y).cell? a3 = some v3 ∧ ((w.setCell ⟨g, 0, none⟩ x).setCell ⟨g, 1, none⟩ y).cell? a4 = some v4 ∧ ((w.setCell ⟨g, 0, none⟩ x).setCell ⟨g, 1, none⟩ y).cell? a5 = some v5 := by
  obtain ⟨h0, h1, h2, h3, h4, h5⟩ := h
  exact ⟨cell_apart n0 (cell_apart n0 h0), cell_apart n1 (cell_apart n1 h1), cell_apart n2 (cell_apart n2 h2), cell_apart n3 (cell_apart n3 h3), cell_apart n4 (cell_apart n4 h4), cell_apart n5 (cell_apart n5 h5)⟩
theorem ptsdrew6 {w : World} {a0 a1 a2 a3 a4 a5 : Addr} {v0 v1 v2 v3 v4 v5 : Value} (h : w.cell? a0 = some v0 ∧ w.cell? a1 = some v1 ∧ w.cell? a2 = some v2 ∧ w.cell? a3 = some v3 ∧ w.cell? a4 = some v4 ∧ w.cell? a5 = some v5) : w.drew.cell? a0 = some v0 ∧ w.drew.cell? a1 = some v1 ∧ w.drew.cell? a2 = some v2 ∧ w.drew.cell? a3 = some v3 ∧ w.drew.cell? a4 = some v4 ∧ w.drew.cell? a5 = some v5 := h

def ThreeP (v : Value) : Prop := ∃ ax ay bx cy px py : Int, (-1 ≤ ax ∧ ax ≤ 200001) ∧ (-1 ≤ ay ∧ ay ≤ 200001) ∧ (-1 ≤ bx ∧ bx ≤ 200001) ∧ (-1 ≤ cy ∧ cy ≤ 200001) ∧ (-1 ≤ px ∧ px ≤ 200001) ∧ (-1 ≤ py ∧ py ≤ 200001) ∧ v = .tuple #[.agg #[.int .i64 ax, .int .i64 ay], .agg #[.int .i64 bx, .int .i64 cy], .agg #[.int .i64 px, .int .i64 py]]
set_option maxRecDepth 100000 in
set_option maxHeartbeats 4000000 in
theorem three_draw (w0 w : World) (bs : Nat) (sv : Value) (zs : List Int) (k : Nat) (hk : k ≤ 600000) (h : Src w0 bs sv zs k w) :
    Calls Tryz.prog 30 #[.pointer (some ⟨bs, 0, none⟩)] w (Drawn (ThreeP) w0 bs sv zs (k + 64) w) := by
  have hlt := h.lt
  have hw0 := h.bel.size
  obtain ⟨W, hW⟩ : ∃ W, ((w.alloc (.cells #[.int .i64 0, .int .i64 0] 25)).alloc (.cells #[.int .i64 0, .int .i64 0] 25)).alloc (.cells #[.int .i64 0, .int .i64 0] 25) = W := ⟨_, rfl⟩
  have hWs : W.heap.size = w.heap.size + 3 := by rw [← hW]; simp
  have HWb := Lib.hid (show Below w.heap.size w W by rw [← hW]; exact (((Below.refl _ _).alloc (by simp) _).alloc (by simp) _).alloc (by first | (simp; done) | (simp; omega)) _)
  have S0 := Lib.hid (h.below HWb.out)
  have R0 := Lib.hid (show Var2 w.heap.size (.int .i64 0) (.int .i64 0) W by rw [← hW]; exact ((Var2.new _ _ _ _).alloc _).alloc _)
  have T0 := Lib.hid (show Var2 (w.heap.size + 1) (.int .i64 0) (.int .i64 0) W by rw [← hW]; have := (Var2.new (w.alloc (.cells #[.int .i64 0, .int .i64 0] 25)) (.int .i64 0) (.int .i64 0) 25).alloc (.cells #[.int .i64 0, .int .i64 0] 25); simpa using this)
  have U0 := Lib.hid (show Var2 (w.heap.size + 2) (.int .i64 0) (.int .i64 0) W by rw [← hW]; have := Var2.new ((w.alloc (.cells #[.int .i64 0, .int .i64 0] 25)).alloc (.cells #[.int .i64 0, .int .i64 0] 25)) (.int .i64 0) (.int .i64 0) 25; simpa using this)
  have HWE := Lib.hid hW
  clear hW h
  go_enter Tryz.func30, Tryz.ntmps30
  go_wp2_with (go_at_call 18; rw [HWE.out]; refine (bent_draw _ _ _ _ _ _ (by omega) S0.out).mono ?_; rintro e w1 ⟨_, ⟨ax, ay, a0, a1, a2, a3, rfl⟩, rfl, hS1, ho1⟩; refine Hid.out ?_)
  refine Lib.hid ?_
  have S1 := Lib.hid hS1
  have lS1 := hS1.lt
  have O1 := Lib.hid ((Only.of_below HWb.out).trans ho1)
  have R1 := Lib.hid (R0.out.only (by omega) ho1)
  have lR1 := R1.out.lt
  have T1 := Lib.hid (T0.out.only (by omega) ho1)
  have lT1 := T1.out.lt
  have U1 := Lib.hid (U0.out.only (by omega) ho1)
  have lU1 := U1.out.lt
  have HA := Lib.hid (And.intro (And.intro a0 a1) (And.intro a2 a3))
  clear hS1 ho1
  go_wp2_with (go_at_call 18; refine (bent_draw _ _ _ _ _ _ (by omega) (S1.out.alloc _)).mono ?_; rintro e w2 ⟨_, ⟨bx, cy, b0, b1, b2, b3, rfl⟩, rfl, hS2, ho2⟩; refine Hid.out ?_)
  refine Lib.hid ?_
  have S2 := Lib.hid hS2
  have R2 := Lib.hid ((R1.out.alloc _).only (by omega) ho2)
  have lR2 := R2.out.lt
  have T2 := Lib.hid ((T1.out.alloc _).only (by omega) ho2)
  have lT2 := T2.out.lt
  have U2 := Lib.hid ((U1.out.alloc _).only (by omega) ho2)
  have lU2 := U2.out.lt
  have A2 := Lib.hid ((Var2.new w1 (.int .i64 ax) (.int .i64 ay) 25).only (by omega) ho2)
  have lA2 := A2.out.lt
  have O2 := Lib.hid ((O1.out.alloc _).trans ho2)
  have lS2 := hS2.lt
  have lw2 := ho2.size
  simp only [World.size_alloc] at lw2
  clear hS2 ho2
  go_wp2_with (go_at_call 18; refine (bent_draw _ _ _ _ _ _ (by omega) (S2.out.alloc _)).mono ?_; rintro e w3 ⟨_, ⟨px, py, p0, p1, p2, p3, rfl⟩, rfl, hS3, ho3⟩; refine Hid.out ?_)
  refine Lib.hid ?_
  have S3 := Lib.hid hS3
  have R3 := Lib.hid ((R2.out.alloc _).only (by omega) ho3)
  have lR3 := R3.out.lt
  have T3 := Lib.hid ((T2.out.alloc _).only (by omega) ho3)
  have lT3 := T3.out.lt
  have U3 := Lib.hid ((U2.out.alloc _).only (by omega) ho3)
  have lU3 := U3.out.lt
  have A3 := Lib.hid ((A2.out.alloc _).only (by omega) ho3)
  have lA3 := A3.out.lt
  have B3 := Lib.hid ((Var2.new w2 (.int .i64 bx) (.int .i64 cy) 25).only (by omega) ho3)
  have lB3 := B3.out.lt
  have O3 := Lib.hid ((O2.out.alloc _).trans ho3)
  have lS3 := hS3.lt
  have lw3 := ho3.size
  simp only [World.size_alloc] at lw3
  clear hS3 ho3
  go_wp2_with (go_at_call 33; refine (one_draw _ _ _ _ _ _ 3 (by omega) (by omega) (by omega) (S3.out.alloc _)).mono ?_; rintro e w4 ⟨_, ⟨u, rfl⟩, rfl, hS4, ho4⟩; refine Hid.out ?_)
  refine Lib.hid ?_
  have S4 := Lib.hid hS4
  have R4 := Lib.hid ((R3.out.alloc _).only (by omega) ho4)
  have lR4 := R4.out.lt
  have T4 := Lib.hid ((T3.out.alloc _).only (by omega) ho4)
  have lT4 := T4.out.lt
  have U4 := Lib.hid ((U3.out.alloc _).only (by omega) ho4)
  have lU4 := U4.out.lt
  have A4 := Lib.hid ((A3.out.alloc _).only (by omega) ho4)
  have lA4 := A4.out.lt
  have B4 := Lib.hid ((B3.out.alloc _).only (by omega) ho4)
  have lB4 := B4.out.lt
  have C4 := Lib.hid ((Var2.new w3 (.int .i64 px) (.int .i64 py) 25).only (by omega) ho4)
  have lC4 := C4.out.lt
  have O4 := Lib.hid ((O3.out.alloc _).trans ho4)
  have lS4 := hS4.lt
  clear hS4 ho4
  cases u
  · go_wp2_with (go_at_call 33; refine (one_draw _ _ _ _ _ _ 12 (by omega) (by omega) (by omega) S4.out).mono ?_; rintro e w5 ⟨_, ⟨v, rfl⟩, rfl, hS5, ho5⟩; refine Hid.out ?_)
    refine Lib.hid ?_
    have S5 := Lib.hid hS5
    have R5 := Lib.hid (R4.out.only (by omega) ho5)
    have lR5 := R5.out.lt
    have T5 := Lib.hid (T4.out.only (by omega) ho5)
    have lT5 := T5.out.lt
    have U5 := Lib.hid (U4.out.only (by omega) ho5)
    have lU5 := U5.out.lt
    have A5 := Lib.hid (A4.out.only (by omega) ho5)
    have lA5 := A5.out.lt
    have B5 := Lib.hid (B4.out.only (by omega) ho5)
    have lB5 := B5.out.lt
    have C5 := Lib.hid (C4.out.only (by omega) ho5)
    have lC5 := C5.out.lt
    have O5 := Lib.hid (O4.out.trans ho5)
    clear hS5 ho5
    cases v
    · obtain ⟨r0, r1, r2, r3⟩ := R5.out
      obtain ⟨t0, t1, t2, t3⟩ := T5.out
      obtain ⟨u0, u1, u2, u3⟩ := U5.out
      obtain ⟨a0, a1, a2, a3⟩ := A5.out
      obtain ⟨b0, b1, b2, b3⟩ := B5.out
      obtain ⟨c0, c1, c2, c3⟩ := C5.out
      go_wp2_with (fail)
      go_region_held3 (fun w' => w'.cell? ⟨w1.heap.size, 0, none⟩ = some (.int .i64 ax) ∧ w'.cell? ⟨w1.heap.size, 1, none⟩ = some (.int .i64 ay) ∧ w'.cell? ⟨w2.heap.size, 0, none⟩ = some (.int .i64 bx) ∧ w'.cell? ⟨w2.heap.size, 1, none⟩ = some (.int .i64 cy) ∧ w'.cell? ⟨w3.heap.size, 0, none⟩ = some (.int .i64 px) ∧ w'.cell? ⟨w3.heap.size, 1, none⟩ = some (.int .i64 py))
        (repeat (first | (with_reducible assumption) | (with_reducible exact ⟨a0, a1, b0, b1, c0, c1⟩) | (with_reducible refine ptsdrew6 ?_) | (with_reducible refine ptsput6 (by simp only; omega) (by simp only; omega) (by simp only; omega) (by simp only; omega) (by simp only; omega) (by simp only; omega) ?_)))
        (fail)
      all_goals
        go_wp2_with (fail)
        refine bodyPost_ret (v := .tuple #[.agg #[.int .i64 ax, .int .i64 ay], .agg #[.int .i64 bx, .int .i64 cy], .agg #[.int .i64 px, .int .i64 py]]) (by simp [results, Tryz.results30, go_sem, *]) rfl ?_
        refine ⟨_, ⟨ax, ay, bx, cy, px, py, ⟨by omega, by omega⟩, ⟨by omega, by omega⟩, ⟨by omega, by omega⟩, ⟨by omega, by omega⟩, ⟨by omega, by omega⟩, ⟨by omega, by omega⟩, rfl⟩, rfl, ?_, ?_⟩
        · (repeat (first | with_reducible refine Src.drew ?_ | with_reducible refine Src.put ?_ (by omega) (by omega) _))
          exact S5.out.more (by omega)
        · (repeat (first | with_reducible refine Only.drew ?_ | with_reducible refine Only.put ?_ (.inr (by omega)) _))
          exact O5.out
    · obtain ⟨r0, r1, r2, r3⟩ := R5.out
      obtain ⟨t0, t1, t2, t3⟩ := T5.out
      obtain ⟨u0, u1, u2, u3⟩ := U5.out
      obtain ⟨a0, a1, a2, a3⟩ := A5.out
      obtain ⟨b0, b1, b2, b3⟩ := B5.out
      obtain ⟨c0, c1, c2, c3⟩ := C5.out
      go_wp2_with (go_at_call 19; refine (pick_draw _ _ _ _ _ _ 9 (by omega) (by omega) (by omega) S5.out).mono ?_; rintro e w6 ⟨_, ⟨p, p0, p1, rfl⟩, rfl, hS6, ho6⟩; refine Hid.out ?_)
      refine Lib.hid ?_
      have S6 := Lib.hid hS6
      have R6 := Lib.hid (R5.out.only (by omega) ho6)
      have lR6 := R6.out.lt
      have T6 := Lib.hid (T5.out.only (by omega) ho6)
      have lT6 := T6.out.lt
      have U6 := Lib.hid (U5.out.only (by omega) ho6)
      have lU6 := U6.out.lt
      have A6 := Lib.hid (A5.out.only (by omega) ho6)
      have lA6 := A6.out.lt
      have B6 := Lib.hid (B5.out.only (by omega) ho6)
      have lB6 := B6.out.lt
      have C6 := Lib.hid (C5.out.only (by omega) ho6)
      have lC6 := C6.out.lt
      have O6 := Lib.hid (O5.out.trans ho6)
      clear hS6 ho6
      clear r0 r1 r2 r3 t0 t1 t2 t3 u0 u1 u2 u3 a0 a1 a2 a3 b0 b1 b2 b3 c0 c1 c2 c3
      have S6' := Lib.hid ((S6.out.put (g := w1.heap.size) (j := 0) (by omega) (by omega) (.int .i64 p)).put (g := w1.heap.size) (j := 1) (by omega) (by omega) (.int .i64 0))
      have O6' := Lib.hid ((O6.out.put (g := w1.heap.size) (j := 0) (.inr (by omega)) (.int .i64 p)).put (g := w1.heap.size) (j := 1) (.inr (by omega)) (.int .i64 0))
      have A6' := Lib.hid ((A6.out.set0 (.int .i64 p)).set1 (.int .i64 0))
      have R6' := Lib.hid ((R6.out.put (g := w1.heap.size) (j := 0) (by omega) (.int .i64 p)).put (g := w1.heap.size) (j := 1) (by omega) (.int .i64 0))
      have T6' := Lib.hid ((T6.out.put (g := w1.heap.size) (j := 0) (by omega) (.int .i64 p)).put (g := w1.heap.size) (j := 1) (by omega) (.int .i64 0))
      have U6' := Lib.hid ((U6.out.put (g := w1.heap.size) (j := 0) (by omega) (.int .i64 p)).put (g := w1.heap.size) (j := 1) (by omega) (.int .i64 0))
      have B6' := Lib.hid ((B6.out.put (g := w1.heap.size) (j := 0) (by omega) (.int .i64 p)).put (g := w1.heap.size) (j := 1) (by omega) (.int .i64 0))
      have C6' := Lib.hid ((C6.out.put (g := w1.heap.size) (j := 0) (by omega) (.int .i64 p)).put (g := w1.heap.size) (j := 1) (by omega) (.int .i64 0))
      obtain ⟨r0, r1, r2, r3⟩ := R6.out
      obtain ⟨t0, t1, t2, t3⟩ := T6.out
      obtain ⟨u0, u1, u2, u3⟩ := U6.out
      obtain ⟨a0, a1, a2, a3⟩ := A6.out
      obtain ⟨b0, b1, b2, b3⟩ := B6.out
      obtain ⟨c0, c1, c2, c3⟩ := C6.out
      go_wp2_with (go_at_call 19; refine (pick_draw _ _ _ _ _ _ 9 (by omega) (by omega) (by omega) S6'.out).mono ?_; rintro e w7 ⟨_, ⟨q, q0, q1, rfl⟩, rfl, hS7, ho7⟩; refine Hid.out ?_)
      refine Lib.hid ?_
      have S7 := Lib.hid hS7
      have R7 := Lib.hid (R6'.out.only (by omega) ho7)
      have lR7 := R7.out.lt
      have T7 := Lib.hid (T6'.out.only (by omega) ho7)
      have lT7 := T7.out.lt
      have U7 := Lib.hid (U6'.out.only (by omega) ho7)
      have lU7 := U7.out.lt
      have A7 := Lib.hid (A6'.out.only (by omega) ho7)
      have lA7 := A7.out.lt
      have B7 := Lib.hid (B6'.out.only (by omega) ho7)
      have lB7 := B7.out.lt
      have C7 := Lib.hid (C6'.out.only (by omega) ho7)
      have lC7 := C7.out.lt
      have O7 := Lib.hid (O6'.out.trans ho7)
      clear hS7 ho7
      clear r0 r1 r2 r3 t0 t1 t2 t3 u0 u1 u2 u3 a0 a1 a2 a3 b0 b1 b2 b3 c0 c1 c2 c3
      have S7' := Lib.hid ((S7.out.put (g := w2.heap.size) (j := 0) (by omega) (by omega) (.int .i64 200000)).put (g := w2.heap.size) (j := 1) (by omega) (by omega) (.int .i64 (200000 - q)))
      have O7' := Lib.hid ((O7.out.put (g := w2.heap.size) (j := 0) (.inr (by omega)) (.int .i64 200000)).put (g := w2.heap.size) (j := 1) (.inr (by omega)) (.int .i64 (200000 - q)))
      have B7' := Lib.hid ((B7.out.set0 (.int .i64 200000)).set1 (.int .i64 (200000 - q)))
      have R7' := Lib.hid ((R7.out.put (g := w2.heap.size) (j := 0) (by omega) (.int .i64 200000)).put (g := w2.heap.size) (j := 1) (by omega) (.int .i64 (200000 - q)))
      have T7' := Lib.hid ((T7.out.put (g := w2.heap.size) (j := 0) (by omega) (.int .i64 200000)).put (g := w2.heap.size) (j := 1) (by omega) (.int .i64 (200000 - q)))
      have U7' := Lib.hid ((U7.out.put (g := w2.heap.size) (j := 0) (by omega) (.int .i64 200000)).put (g := w2.heap.size) (j := 1) (by omega) (.int .i64 (200000 - q)))
      have A7' := Lib.hid ((A7.out.put (g := w2.heap.size) (j := 0) (by omega) (.int .i64 200000)).put (g := w2.heap.size) (j := 1) (by omega) (.int .i64 (200000 - q)))
      have C7' := Lib.hid ((C7.out.put (g := w2.heap.size) (j := 0) (by omega) (.int .i64 200000)).put (g := w2.heap.size) (j := 1) (by omega) (.int .i64 (200000 - q)))
      obtain ⟨r0, r1, r2, r3⟩ := R7.out
      obtain ⟨t0, t1, t2, t3⟩ := T7.out
      obtain ⟨u0, u1, u2, u3⟩ := U7.out
      obtain ⟨a0, a1, a2, a3⟩ := A7.out
      obtain ⟨b0, b1, b2, b3⟩ := B7.out
      obtain ⟨c0, c1, c2, c3⟩ := C7.out
      go_wp2_with (fail)
      clear r0 r1 r2 r3 t0 t1 t2 t3 u0 u1 u2 u3 a0 a1 a2 a3 b0 b1 b2 b3 c0 c1 c2 c3
      generalize ((w7.setCell ⟨w2.heap.size, 0, none⟩ (.int .i64 200000)).setCell ⟨w2.heap.size, 1, none⟩ (.int .i64 (200000 - q))) = w8 at *
      have S8 := S7'
      have O8 := O7'
      have R8 := R7'
      have T8 := T7'
      have U8 := U7'
      have A8 := A7'
      have B8 := B7'
      have C8 := C7'
      obtain ⟨r0, r1, r2, r3⟩ := R8.out
      obtain ⟨t0, t1, t2, t3⟩ := T8.out
      obtain ⟨u0, u1, u2, u3⟩ := U8.out
      obtain ⟨a0, a1, a2, a3⟩ := A8.out
      obtain ⟨b0, b1, b2, b3⟩ := B8.out
      obtain ⟨c0, c1, c2, c3⟩ := C8.out
      go_region_held3 (fun w' => w'.cell? ⟨w1.heap.size, 0, none⟩ = some (.int .i64 p) ∧ w'.cell? ⟨w1.heap.size, 1, none⟩ = some (.int .i64 0) ∧ w'.cell? ⟨w2.heap.size, 0, none⟩ = some (.int .i64 200000) ∧ w'.cell? ⟨w2.heap.size, 1, none⟩ = some (.int .i64 (200000 - q)) ∧ w'.cell? ⟨w3.heap.size, 0, none⟩ = some (.int .i64 px) ∧ w'.cell? ⟨w3.heap.size, 1, none⟩ = some (.int .i64 py))
        (repeat (first | (with_reducible assumption) | (with_reducible exact ⟨a0, a1, b0, b1, c0, c1⟩) | (with_reducible refine ptsdrew6 ?_) | (with_reducible refine ptsput6 (by simp only; omega) (by simp only; omega) (by simp only; omega) (by simp only; omega) (by simp only; omega) (by simp only; omega) ?_)))
        (fail)
      all_goals
        go_wp2_with (fail)
        refine bodyPost_ret (v := .tuple #[.agg #[.int .i64 p, .int .i64 0], .agg #[.int .i64 200000, .int .i64 (200000 - q)], .agg #[.int .i64 px, .int .i64 py]]) (by simp [results, Tryz.results30, go_sem, *]) rfl ?_
        refine ⟨_, ⟨p, 0, 200000, (200000 - q), px, py, ⟨by omega, by omega⟩, ⟨by omega, by omega⟩, ⟨by omega, by omega⟩, ⟨by omega, by omega⟩, ⟨by omega, by omega⟩, ⟨by omega, by omega⟩, rfl⟩, rfl, ?_, ?_⟩
        · (repeat (first | with_reducible refine Src.drew ?_ | with_reducible refine Src.put ?_ (by omega) (by omega) _))
          exact S8.out.more (by omega)
        · (repeat (first | with_reducible refine Only.drew ?_ | with_reducible refine Only.put ?_ (.inr (by omega)) _))
          exact O8.out
  · have HVA : Hid (Vw ax ay) := Lib.hid ⟨by omega, by omega, by omega, by omega⟩
    have HVB : Hid (Vw bx cy) := Lib.hid ⟨by omega, by omega, by omega, by omega⟩
    obtain ⟨r0, r1, r2, r3⟩ := R4.out
    obtain ⟨t0, t1, t2, t3⟩ := T4.out
    obtain ⟨u0, u1, u2, u3⟩ := U4.out
    obtain ⟨a0, a1, a2, a3⟩ := A4.out
    obtain ⟨b0, b1, b2, b3⟩ := B4.out
    obtain ⟨c0, c1, c2, c3⟩ := C4.out
    go_wp2_with (fail)
    go_region_held3 (fun w' => w'.cell? ⟨w1.heap.size, 0, none⟩ = some (.int .i64 ax) ∧ w'.cell? ⟨w1.heap.size, 1, none⟩ = some (.int .i64 ay) ∧ w'.cell? ⟨w2.heap.size, 0, none⟩ = some (.int .i64 bx) ∧ w'.cell? ⟨w2.heap.size, 1, none⟩ = some (.int .i64 cy))
      (repeat (first | (with_reducible assumption) | (with_reducible exact ⟨a0, a1, b0, b1⟩) | (with_reducible refine ptsdrew4 ?_) | (with_reducible refine ptsput4 (by simp only; omega) (by simp only; omega) (by simp only; omega) (by simp only; omega) ?_)))
      (first
        | (go_at_call 19; refine (pick_draw _ _ _ _ _ _ 8 (by omega) (by omega) (by omega) S4.out.drew).mono ?_; rintro e w5 ⟨_, ⟨i, i0, i1, rfl⟩, rfl, hS5, ho5⟩; have A5 := (A4.out.drew).only (by omega) ho5; have B5 := (B4.out.drew).only (by omega) ho5; have C5 := (C4.out.drew).only (by omega) ho5; have lw5 := ho5.size; have hq5 := (⟨A5.c0, A5.c1, B5.c0, B5.c1⟩ : w5.cell? ⟨w1.heap.size, 0, none⟩ = some (.int .i64 ax) ∧ w5.cell? ⟨w1.heap.size, 1, none⟩ = some (.int .i64 ay) ∧ w5.cell? ⟨w2.heap.size, 0, none⟩ = some (.int .i64 bx) ∧ w5.cell? ⟨w2.heap.size, 1, none⟩ = some (.int .i64 cy)))
        | (go_at_call 50; refine (sl02btw_any _ _ _ _ _ _ _ HVA.out HVB.out (by decide) (by simp [inB]; omega)).mono ?_; rintro e w6 ⟨rfl, hb6⟩; have A6 := A5.below hb6; have B6 := B5.below hb6; have C6 := C5.below hb6; (have C6k := C6); obtain ⟨k0, k1, k2, k3⟩ := C6k; have lw6 := hb6.size; have hq6 := (⟨A6.c0, A6.c1, B6.c0, B6.c1⟩ : w6.cell? ⟨w1.heap.size, 0, none⟩ = some (.int .i64 ax) ∧ w6.cell? ⟨w1.heap.size, 1, none⟩ = some (.int .i64 ay) ∧ w6.cell? ⟨w2.heap.size, 0, none⟩ = some (.int .i64 bx) ∧ w6.cell? ⟨w2.heap.size, 1, none⟩ = some (.int .i64 cy))))
    obtain ⟨X, Y, eX, eY, ⟨X0, X1⟩, Y0, Y1⟩ := btww_in (i := i) (n := 7) HVA.out HVB.out (by omega) (by omega) (by omega)
    simp only [eX, eY]
    have S7 := Lib.hid (((hS5.below hb6).put (g := w3.heap.size) (j := 0) (by omega) (by omega) (.int .i64 X)).put (g := w3.heap.size) (j := 1) (by omega) (by omega) (.int .i64 Y))
    have O7 := Lib.hid ((((O4.out.drew.trans ho5).trans (Only.of_below hb6)).put (g := w3.heap.size) (j := 0) (.inr (by omega)) (.int .i64 X)).put (g := w3.heap.size) (j := 1) (.inr (by omega)) (.int .i64 Y))
    have C7 := Lib.hid ((C6.set0 (.int .i64 X)).set1 (.int .i64 Y))
    have R7 := Lib.hid (((((R4.out.drew).only (by omega) ho5).below hb6).put (g := w3.heap.size) (j := 0) (by omega) (.int .i64 X)).put (g := w3.heap.size) (j := 1) (by omega) (.int .i64 Y))
    have T7 := Lib.hid (((((T4.out.drew).only (by omega) ho5).below hb6).put (g := w3.heap.size) (j := 0) (by omega) (.int .i64 X)).put (g := w3.heap.size) (j := 1) (by omega) (.int .i64 Y))
    have U7 := Lib.hid (((((U4.out.drew).only (by omega) ho5).below hb6).put (g := w3.heap.size) (j := 0) (by omega) (.int .i64 X)).put (g := w3.heap.size) (j := 1) (by omega) (.int .i64 Y))
    have A7 := Lib.hid ((A6.put (g := w3.heap.size) (j := 0) (by omega) (.int .i64 X)).put (g := w3.heap.size) (j := 1) (by omega) (.int .i64 Y))
    have B7 := Lib.hid ((B6.put (g := w3.heap.size) (j := 0) (by omega) (.int .i64 X)).put (g := w3.heap.size) (j := 1) (by omega) (.int .i64 Y))
    clear eX eY hS5 ho5 hb6 hq5 hq6 A5 B5 C5 A6 B6 C6 k0 k1 k2 k3
    clear r0 r1 r2 r3 t0 t1 t2 t3 u0 u1 u2 u3 a0 a1 a2 a3 b0 b1 b2 b3 c0 c1 c2 c3
    generalize (w6.setCell ⟨w3.heap.size, 0, none⟩ (.int .i64 X)).setCell ⟨w3.heap.size, 1, none⟩ (.int .i64 Y) = w7 at *
    have lR7 := R7.out.lt
    have lT7 := T7.out.lt
    have lU7 := U7.out.lt
    have lA7 := A7.out.lt
    have lB7 := B7.out.lt
    have lC7 := C7.out.lt
    go_wp2_with (go_at_call 33; refine (one_draw _ _ _ _ _ _ 12 (by omega) (by omega) (by omega) S7.out).mono ?_; rintro e w8 ⟨_, ⟨v, rfl⟩, rfl, hS8, ho8⟩; refine Hid.out ?_)
    refine Lib.hid ?_
    have S8 := Lib.hid hS8
    have R8 := Lib.hid (R7.out.only (by omega) ho8)
    have lR8 := R8.out.lt
    have T8 := Lib.hid (T7.out.only (by omega) ho8)
    have lT8 := T8.out.lt
    have U8 := Lib.hid (U7.out.only (by omega) ho8)
    have lU8 := U8.out.lt
    have A8 := Lib.hid (A7.out.only (by omega) ho8)
    have lA8 := A8.out.lt
    have B8 := Lib.hid (B7.out.only (by omega) ho8)
    have lB8 := B8.out.lt
    have C8 := Lib.hid (C7.out.only (by omega) ho8)
    have lC8 := C8.out.lt
    have O8 := Lib.hid (O7.out.trans ho8)
    clear hS8 ho8
    cases v
    · obtain ⟨r0, r1, r2, r3⟩ := R8.out
      obtain ⟨t0, t1, t2, t3⟩ := T8.out
      obtain ⟨u0, u1, u2, u3⟩ := U8.out
      obtain ⟨a0, a1, a2, a3⟩ := A8.out
      obtain ⟨b0, b1, b2, b3⟩ := B8.out
      obtain ⟨c0, c1, c2, c3⟩ := C8.out
      go_wp2_with (fail)
      go_region_held3 (fun w' => w'.cell? ⟨w1.heap.size, 0, none⟩ = some (.int .i64 ax) ∧ w'.cell? ⟨w1.heap.size, 1, none⟩ = some (.int .i64 ay) ∧ w'.cell? ⟨w2.heap.size, 0, none⟩ = some (.int .i64 bx) ∧ w'.cell? ⟨w2.heap.size, 1, none⟩ = some (.int .i64 cy) ∧ w'.cell? ⟨w3.heap.size, 0, none⟩ = some (.int .i64 X) ∧ w'.cell? ⟨w3.heap.size, 1, none⟩ = some (.int .i64 Y))
        (repeat (first | (with_reducible assumption) | (with_reducible exact ⟨a0, a1, b0, b1, c0, c1⟩) | (with_reducible refine ptsdrew6 ?_) | (with_reducible refine ptsput6 (by simp only; omega) (by simp only; omega) (by simp only; omega) (by simp only; omega) (by simp only; omega) (by simp only; omega) ?_)))
        (fail)
      all_goals
        go_wp2_with (fail)
        refine bodyPost_ret (v := .tuple #[.agg #[.int .i64 ax, .int .i64 ay], .agg #[.int .i64 bx, .int .i64 cy], .agg #[.int .i64 X, .int .i64 Y]]) (by simp [results, Tryz.results30, go_sem, *]) rfl ?_
        refine ⟨_, ⟨ax, ay, bx, cy, X, Y, ⟨by omega, by omega⟩, ⟨by omega, by omega⟩, ⟨by omega, by omega⟩, ⟨by omega, by omega⟩, ⟨by omega, by omega⟩, ⟨by omega, by omega⟩, rfl⟩, rfl, ?_, ?_⟩
        · (repeat (first | with_reducible refine Src.drew ?_ | with_reducible refine Src.put ?_ (by omega) (by omega) _))
          exact S8.out.more (by omega)
        · (repeat (first | with_reducible refine Only.drew ?_ | with_reducible refine Only.put ?_ (.inr (by omega)) _))
          exact O8.out
    · obtain ⟨r0, r1, r2, r3⟩ := R8.out
      obtain ⟨t0, t1, t2, t3⟩ := T8.out
      obtain ⟨u0, u1, u2, u3⟩ := U8.out
      obtain ⟨a0, a1, a2, a3⟩ := A8.out
      obtain ⟨b0, b1, b2, b3⟩ := B8.out
      obtain ⟨c0, c1, c2, c3⟩ := C8.out
      go_wp2_with (go_at_call 19; refine (pick_draw _ _ _ _ _ _ 9 (by omega) (by omega) (by omega) S8.out).mono ?_; rintro e w9 ⟨_, ⟨p, p0, p1, rfl⟩, rfl, hS9, ho9⟩; refine Hid.out ?_)
      refine Lib.hid ?_
      have S9 := Lib.hid hS9
      have R9 := Lib.hid (R8.out.only (by omega) ho9)
      have lR9 := R9.out.lt
      have T9 := Lib.hid (T8.out.only (by omega) ho9)
      have lT9 := T9.out.lt
      have U9 := Lib.hid (U8.out.only (by omega) ho9)
      have lU9 := U9.out.lt
      have A9 := Lib.hid (A8.out.only (by omega) ho9)
      have lA9 := A9.out.lt
      have B9 := Lib.hid (B8.out.only (by omega) ho9)
      have lB9 := B9.out.lt
      have C9 := Lib.hid (C8.out.only (by omega) ho9)
      have lC9 := C9.out.lt
      have O9 := Lib.hid (O8.out.trans ho9)
      clear hS9 ho9
      clear r0 r1 r2 r3 t0 t1 t2 t3 u0 u1 u2 u3 a0 a1 a2 a3 b0 b1 b2 b3 c0 c1 c2 c3
      have S9' := Lib.hid ((S9.out.put (g := w1.heap.size) (j := 0) (by omega) (by omega) (.int .i64 p)).put (g := w1.heap.size) (j := 1) (by omega) (by omega) (.int .i64 0))
      have O9' := Lib.hid ((O9.out.put (g := w1.heap.size) (j := 0) (.inr (by omega)) (.int .i64 p)).put (g := w1.heap.size) (j := 1) (.inr (by omega)) (.int .i64 0))
      have A9' := Lib.hid ((A9.out.set0 (.int .i64 p)).set1 (.int .i64 0))
      have R9' := Lib.hid ((R9.out.put (g := w1.heap.size) (j := 0) (by omega) (.int .i64 p)).put (g := w1.heap.size) (j := 1) (by omega) (.int .i64 0))
      have T9' := Lib.hid ((T9.out.put (g := w1.heap.size) (j := 0) (by omega) (.int .i64 p)).put (g := w1.heap.size) (j := 1) (by omega) (.int .i64 0))
      have U9' := Lib.hid ((U9.out.put (g := w1.heap.size) (j := 0) (by omega) (.int .i64 p)).put (g := w1.heap.size) (j := 1) (by omega) (.int .i64 0))
      have B9' := Lib.hid ((B9.out.put (g := w1.heap.size) (j := 0) (by omega) (.int .i64 p)).put (g := w1.heap.size) (j := 1) (by omega) (.int .i64 0))
      have C9' := Lib.hid ((C9.out.put (g := w1.heap.size) (j := 0) (by omega) (.int .i64 p)).put (g := w1.heap.size) (j := 1) (by omega) (.int .i64 0))
      obtain ⟨r0, r1, r2, r3⟩ := R9.out
      obtain ⟨t0, t1, t2, t3⟩ := T9.out
      obtain ⟨u0, u1, u2, u3⟩ := U9.out
      obtain ⟨a0, a1, a2, a3⟩ := A9.out
      obtain ⟨b0, b1, b2, b3⟩ := B9.out
      obtain ⟨c0, c1, c2, c3⟩ := C9.out
      go_wp2_with (go_at_call 19; refine (pick_draw _ _ _ _ _ _ 9 (by omega) (by omega) (by omega) S9'.out).mono ?_; rintro e w10 ⟨_, ⟨q, q0, q1, rfl⟩, rfl, hS10, ho10⟩; refine Hid.out ?_)
      refine Lib.hid ?_
      have S10 := Lib.hid hS10
      have R10 := Lib.hid (R9'.out.only (by omega) ho10)
      have lR10 := R10.out.lt
      have T10 := Lib.hid (T9'.out.only (by omega) ho10)
      have lT10 := T10.out.lt
      have U10 := Lib.hid (U9'.out.only (by omega) ho10)
      have lU10 := U10.out.lt
      have A10 := Lib.hid (A9'.out.only (by omega) ho10)
      have lA10 := A10.out.lt
      have B10 := Lib.hid (B9'.out.only (by omega) ho10)
      have lB10 := B10.out.lt
      have C10 := Lib.hid (C9'.out.only (by omega) ho10)
      have lC10 := C10.out.lt
      have O10 := Lib.hid (O9'.out.trans ho10)
      clear hS10 ho10
      clear r0 r1 r2 r3 t0 t1 t2 t3 u0 u1 u2 u3 a0 a1 a2 a3 b0 b1 b2 b3 c0 c1 c2 c3
      have S10' := Lib.hid ((S10.out.put (g := w2.heap.size) (j := 0) (by omega) (by omega) (.int .i64 200000)).put (g := w2.heap.size) (j := 1) (by omega) (by omega) (.int .i64 (200000 - q)))
      have O10' := Lib.hid ((O10.out.put (g := w2.heap.size) (j := 0) (.inr (by omega)) (.int .i64 200000)).put (g := w2.heap.size) (j := 1) (.inr (by omega)) (.int .i64 (200000 - q)))
      have B10' := Lib.hid ((B10.out.set0 (.int .i64 200000)).set1 (.int .i64 (200000 - q)))
      have R10' := Lib.hid ((R10.out.put (g := w2.heap.size) (j := 0) (by omega) (.int .i64 200000)).put (g := w2.heap.size) (j := 1) (by omega) (.int .i64 (200000 - q)))
      have T10' := Lib.hid ((T10.out.put (g := w2.heap.size) (j := 0) (by omega) (.int .i64 200000)).put (g := w2.heap.size) (j := 1) (by omega) (.int .i64 (200000 - q)))
      have U10' := Lib.hid ((U10.out.put (g := w2.heap.size) (j := 0) (by omega) (.int .i64 200000)).put (g := w2.heap.size) (j := 1) (by omega) (.int .i64 (200000 - q)))
      have A10' := Lib.hid ((A10.out.put (g := w2.heap.size) (j := 0) (by omega) (.int .i64 200000)).put (g := w2.heap.size) (j := 1) (by omega) (.int .i64 (200000 - q)))
      have C10' := Lib.hid ((C10.out.put (g := w2.heap.size) (j := 0) (by omega) (.int .i64 200000)).put (g := w2.heap.size) (j := 1) (by omega) (.int .i64 (200000 - q)))
      obtain ⟨r0, r1, r2, r3⟩ := R10.out
      obtain ⟨t0, t1, t2, t3⟩ := T10.out
      obtain ⟨u0, u1, u2, u3⟩ := U10.out
      obtain ⟨a0, a1, a2, a3⟩ := A10.out
      obtain ⟨b0, b1, b2, b3⟩ := B10.out
      obtain ⟨c0, c1, c2, c3⟩ := C10.out
      go_wp2_with (fail)
      clear r0 r1 r2 r3 t0 t1 t2 t3 u0 u1 u2 u3 a0 a1 a2 a3 b0 b1 b2 b3 c0 c1 c2 c3
      generalize ((w10.setCell ⟨w2.heap.size, 0, none⟩ (.int .i64 200000)).setCell ⟨w2.heap.size, 1, none⟩ (.int .i64 (200000 - q))) = w11 at *
      have S11 := S10'
      have O11 := O10'
      have R11 := R10'
      have T11 := T10'
      have U11 := U10'
      have A11 := A10'
      have B11 := B10'
      have C11 := C10'
      obtain ⟨r0, r1, r2, r3⟩ := R11.out
      obtain ⟨t0, t1, t2, t3⟩ := T11.out
      obtain ⟨u0, u1, u2, u3⟩ := U11.out
      obtain ⟨a0, a1, a2, a3⟩ := A11.out
      obtain ⟨b0, b1, b2, b3⟩ := B11.out
      obtain ⟨c0, c1, c2, c3⟩ := C11.out
      go_region_held3 (fun w' => w'.cell? ⟨w1.heap.size, 0, none⟩ = some (.int .i64 p) ∧ w'.cell? ⟨w1.heap.size, 1, none⟩ = some (.int .i64 0) ∧ w'.cell? ⟨w2.heap.size, 0, none⟩ = some (.int .i64 200000) ∧ w'.cell? ⟨w2.heap.size, 1, none⟩ = some (.int .i64 (200000 - q)) ∧ w'.cell? ⟨w3.heap.size, 0, none⟩ = some (.int .i64 X) ∧ w'.cell? ⟨w3.heap.size, 1, none⟩ = some (.int .i64 Y))
        (repeat (first | (with_reducible assumption) | (with_reducible exact ⟨a0, a1, b0, b1, c0, c1⟩) | (with_reducible refine ptsdrew6 ?_) | (with_reducible refine ptsput6 (by simp only; omega) (by simp only; omega) (by simp only; omega) (by simp only; omega) (by simp only; omega) (by simp only; omega) ?_)))
        (fail)
      all_goals
        go_wp2_with (fail)
        refine bodyPost_ret (v := .tuple #[.agg #[.int .i64 p, .int .i64 0], .agg #[.int .i64 200000, .int .i64 (200000 - q)], .agg #[.int .i64 X, .int .i64 Y]]) (by simp [results, Tryz.results30, go_sem, *]) rfl ?_
        refine ⟨_, ⟨p, 0, 200000, (200000 - q), X, Y, ⟨by omega, by omega⟩, ⟨by omega, by omega⟩, ⟨by omega, by omega⟩, ⟨by omega, by omega⟩, ⟨by omega, by omega⟩, ⟨by omega, by omega⟩, rfl⟩, rfl, ?_, ?_⟩
        · (repeat (first | with_reducible refine Src.drew ?_ | with_reducible refine Src.put ?_ (by omega) (by omega) _))
          exact S11.out.more (by omega)
        · (repeat (first | with_reducible refine Only.drew ?_ | with_reducible refine Only.put ?_ (.inr (by omega)) _))
          exact O11.out

def SegDrawn (w : World) (e : Ending) (w' : World) : Prop := ∃ v, ThreeP v ∧ e = .returned v ∧ Below w.heap.size w w'
set_option maxRecDepth 100000 in
set_option maxHeartbeats 2000000 in
theorem draw_seg (w : World) (sv : Value) (zs : List Int) (h : ArgIn .u8 w sv zs) (hz : BytesAre zs) (hl : zs.length ≤ 1048576) :
    Calls Tryz.prog 9 #[sv] w (SegDrawn w) := by
  have hA := Lib.hid h
  clear h
  obtain ⟨W, hW⟩ : ∃ W, ((w.alloc (.cells #[.int .i64 0, .int .i64 0] 25)).alloc (.cells #[.int .i64 0, .int .i64 0] 25)).alloc (.cells #[.int .i64 0, .int .i64 0] 25) = W := ⟨_, rfl⟩
  have hWs : W.heap.size = w.heap.size + 3 := by rw [← hW]; simp
  have HW := Lib.hid (show Below w.heap.size w W by rw [← hW]; exact ((((Below.refl _ _).alloc (by first | (simp; done) | (simp; omega)) _).alloc (by first | (simp; done) | (simp; omega)) _).alloc (by first | (simp; done) | (simp; omega)) _))
  have R0 := Lib.hid (show Var2 (w.heap.size) (.int .i64 0) (.int .i64 0) W by rw [← hW]; have := Var2.new w (.int .i64 0) (.int .i64 0) 25; have := this.alloc (.cells #[.int .i64 0, .int .i64 0] 25); have := this.alloc (.cells #[.int .i64 0, .int .i64 0] 25); simpa using this)
  have T0 := Lib.hid (show Var2 (w.heap.size + 1) (.int .i64 0) (.int .i64 0) W by rw [← hW]; have := Var2.new (w.alloc (.cells #[.int .i64 0, .int .i64 0] 25)) (.int .i64 0) (.int .i64 0) 25; have := this.alloc (.cells #[.int .i64 0, .int .i64 0] 25); simpa using this)
  have U0 := Lib.hid (show Var2 (w.heap.size + 2) (.int .i64 0) (.int .i64 0) W by rw [← hW]; have := Var2.new ((w.alloc (.cells #[.int .i64 0, .int .i64 0] 25)).alloc (.cells #[.int .i64 0, .int .i64 0] 25)) (.int .i64 0) (.int .i64 0) 25; simpa using this)
  have HWE := Lib.hid hW
  clear hW
  go_enter Tryz.func9, Tryz.ntmps9
  go_wp2_with (go_at_call 17; rw [HWE.out]; refine (from_at W (w.heap.size + 3) hWs sv zs (hA.out.below HW.out) hz hl).mono ?_; rintro e w1 ⟨rfl, hS1, hb1⟩; refine Hid.out ?_)
  refine Lib.hid ?_
  have S1 := Lib.hid hS1
  have lS1 := hS1.lt
  have R1 := Lib.hid (R0.out.below hb1)
  have lR1 := R1.out.lt
  have T1 := Lib.hid (T0.out.below hb1)
  have lT1 := T1.out.lt
  have U1 := Lib.hid (U0.out.below hb1)
  have lU1 := U1.out.lt
  have HB1 := Lib.hid (HW.out.trans (hb1.mono HW.out.size))
  clear hS1 hb1
  go_wp2_with (go_at_call 30; refine (three_draw _ _ _ _ _ _ (by omega) S1.out).mono ?_; rintro e w2 ⟨_, ⟨ax, ay, bx, cy, px, py, hax, hay, hbx, hcy, hpx, hpy, rfl⟩, rfl, hS2, ho2⟩; refine Hid.out ?_)
  refine Lib.hid ?_
  have R2 := R1.out.only (by omega) ho2
  have T2 := T1.out.only (by omega) ho2
  have U2 := U1.out.only (by omega) ho2
  obtain ⟨r0, r1, r2, r3⟩ := R2
  obtain ⟨t0, t1, t2, t3⟩ := T2
  obtain ⟨u0, u1, u2, u3⟩ := U2
  have lw2 := ho2.size
  have ac : Below w.heap.size w w2 := Only.below HB1.out ho2 (by omega) (Nat.le_refl _)
  have HV := Lib.hid (show ThreeP (.tuple #[.agg #[.int .i64 ax, .int .i64 ay], .agg #[.int .i64 bx, .int .i64 cy], .agg #[.int .i64 px, .int .i64 py]]) from ⟨ax, ay, bx, cy, px, py, hax, hay, hbx, hcy, hpx, hpy, rfl⟩)
  clear hS2 ho2 hax hay hbx hcy hpx hpy
  go_wp2_with (fail)
  refine bodyPost_ret (v := .tuple #[.agg #[.int .i64 ax, .int .i64 ay], .agg #[.int .i64 bx, .int .i64 cy], .agg #[.int .i64 px, .int .i64 py]]) (by simp [results, Tryz.results9, go_sem, *]) rfl ?_
  exact ⟨_, HV.out, rfl, by go_grown⟩
end Go.Proofs.YthggoboljkdldabGreatDoor
