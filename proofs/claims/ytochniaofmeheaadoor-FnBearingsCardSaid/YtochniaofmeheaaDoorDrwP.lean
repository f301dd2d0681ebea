/- The draws of points and angles. -/
import Derived.Test.YtochniaofmeheaaDoorDrw
namespace Go.Proofs.YtochniaofmeheaaDoor
open Go.ChangeShapes Go.WideShapes Go.ChangeAt Go.RowKit Pm

/-- A variable of two cells that may be written. -/
structure Var2 (b : Nat) (x y : Value) (w : World) : Prop where
  c0 : w.cell? ⟨b, 0, none⟩ = some x
  c1 : w.cell? ⟨b, 1, none⟩ = some y
  z0 : w.frozen? ⟨b, 0, none⟩ = false
  z1 : w.frozen? ⟨b, 1, none⟩ = false
theorem Var2.lt {b : Nat} {x y : Value} {w : World} (v : Var2 b x y w) : b < w.heap.size := cell_lt v.c0
theorem Var2.below {b : Nat} {x y : Value} {w w' : World} (v : Var2 b x y w) (hb : Below w.heap.size w w') : Var2 b x y w' :=
  ⟨cell_below v.c0 hb, cell_below v.c1 hb, frozen_bel v.z0 v.lt hb, frozen_bel v.z1 v.lt hb⟩
theorem Var2.drew {b : Nat} {x y : Value} {w : World} (v : Var2 b x y w) : Var2 b x y w.drew := v.below (Below.refl _ _).drew
theorem Var2.alloc {b : Nat} {x y : Value} {w : World} (v : Var2 b x y w) (o : Obj) : Var2 b x y (w.alloc o) := v.below ((Below.refl _ _).alloc (Nat.le_refl _) _)
theorem Var2.only {b bs : Nat} {x y : Value} {w w' : World} (v : Var2 b x y w) (n : b ≠ bs) (t : Only bs w w') : Var2 b x y w' :=
  ⟨cell_only v.c0 n t, cell_only v.c1 n t, frozen_only v.z0 v.lt n t, frozen_only v.z1 v.lt n t⟩
theorem Var2.new (w : World) (x y : Value) (T : TypeId) : Var2 w.heap.size x y (w.alloc (.cells #[x, y] T)) := by
  refine ⟨by simp, by simp, ?_, ?_⟩ <;> go_simp
theorem Var2.put {b g j : Nat} {x y : Value} {w : World} (v : Var2 b x y w) (n : b ≠ g) (u : Value) : Var2 b x y (w.setCell ⟨g, j, none⟩ u) :=
  ⟨cell_apart n v.c0, cell_apart n v.c1, by rw [World.frozen?_setCell]; exact v.z0, by rw [World.frozen?_setCell]; exact v.z1⟩
theorem Var2.set0 {b : Nat} {x y : Value} {w : World} (v : Var2 b x y w) (u : Value) : Var2 b u y (w.setCell ⟨b, 0, none⟩ u) :=
  ⟨World.cell?_setCell_same _ _ _ v.c0, by rw [World.cell?_setCell_other _ _ _ _ (by intro e; injection e with _ e; omega)]; exact v.c1, by rw [World.frozen?_setCell]; exact v.z0, by rw [World.frozen?_setCell]; exact v.z1⟩
theorem Var2.set1 {b : Nat} {x y : Value} {w : World} (v : Var2 b x y w) (u : Value) : Var2 b x u (w.setCell ⟨b, 1, none⟩ u) :=
  ⟨by rw [World.cell?_setCell_other _ _ _ _ (by intro e; injection e with _ e; omega)]; exact v.c0, World.cell?_setCell_same _ _ _ v.c1, by rw [World.frozen?_setCell]; exact v.z0, by rw [World.frozen?_setCell]; exact v.z1⟩

theorem lit_at (W : World) (xs : List Int) (T : TypeId) (B : Nat) (h : W.heap.size = B) : ∀ i, i < xs.length → (W.alloc (.cells (xs.map (Value.int .i64)).toArray T)).cell? ⟨B, i, none⟩ = some (.int .i64 (xs.getD i 0)) := by
  subst h
  intro i hi
  have h := (MapKept.heap_alloc W (.cells (xs.map (Value.int .i64)).toArray T)).1
  simp only [World.cell?, h]
  simp [hi]
/-- A point within bounds. -/
def PtP (lo hi : Int) (v : Value) : Prop := ∃ x y : Int, lo ≤ x ∧ x ≤ hi ∧ lo ≤ y ∧ y ≤ hi ∧ v = .agg #[.int .i64 x, .int .i64 y]

set_option maxRecDepth 100000 in
set_option maxHeartbeats 1000000 in
theorem pt_draw (w0 w : World) (bs : Nat) (sv : Value) (zs : List Int) (k : Nat) (hk : k ≤ 800000) (h : Src w0 bs sv zs k w) :
    Calls Tryd.prog 44 #[.pointer (some ⟨bs, 0, none⟩)] w (Drawn (PtP 10000 30000) w0 bs sv zs (k + 14) w) := by
  have hlt := h.lt
  have hw0 := h.bel.size
  have HS := Lib.hid h
  clear h
  go_enter Tryd.func44, Tryd.ntmps44
  go_wp2_with (go_at_call 45; refine (among_draw w0 _ bs sv zs k _ _ [20, 100, 100, 100] (by omega) (by simp) (by simp) (by omega) (lit_at _ _ _ _ (by simp)) ((HS.out.alloc _).alloc _)).mono ?_; rintro e w1 ⟨_, ⟨m, hm, rfl⟩, rfl, hS1, ho1⟩; refine Hid.out ?_)
  refine Lib.hid ?_
  obtain ⟨m0, m1⟩ : 20 ≤ m ∧ m ≤ 100 := by simp at hm; omega
  have S1 := Lib.hid hS1
  have V1 := Lib.hid (((Var2.new w (.int .i64 0) (.int .i64 0) 25).alloc _).only (by omega) ho1)
  have O1 := Lib.hid ((((Only.refl bs w).alloc _).alloc _).trans ho1)
  have L1 : w.heap.size < w1.heap.size := V1.out.lt
  obtain ⟨c0, c1, z0, z1⟩ := V1.out
  clear hS1 ho1 hm
  go_wp2_with (go_at_call 26; refine (pick_draw w0 _ bs sv zs _ m (by omega) (by omega) (by omega) S1.out).mono ?_; rintro e w2 ⟨_, ⟨a, a0, a1, rfl⟩, rfl, hS2, ho2⟩; refine Hid.out ?_)
  refine Lib.hid ?_
  have S2 := Lib.hid hS2
  have V2 := Lib.hid (V1.out.only (by omega) ho2)
  have O2 := Lib.hid (O1.out.trans ho2)
  have L2 : w.heap.size < w2.heap.size := V2.out.lt
  obtain ⟨c0, c1, z0, z1⟩ := V2.out
  clear hS2 ho2
  go_wp2_with (go_at_call 26; refine (pick_draw w0 _ bs sv zs _ m (by omega) (by omega) (by omega) S2.out).mono ?_; rintro e w3 ⟨_, ⟨b, b0, b1, rfl⟩, rfl, hS3, ho3⟩; refine Hid.out ?_)
  refine Lib.hid ?_
  have S3 := Lib.hid hS3
  have V3 := Lib.hid (V2.out.only (by omega) ho3)
  have O3 := Lib.hid (O2.out.trans ho3)
  have L3 : w.heap.size < w3.heap.size := V3.out.lt
  obtain ⟨c0, c1, z0, z1⟩ := V3.out
  clear hS3 ho3
  go_wp2_with (go_at_call 54; refine (one_draw w0 _ bs sv zs _ 3 (by omega) (by omega) (by omega) S3.out).mono ?_; rintro e w4 ⟨_, ⟨u, rfl⟩, rfl, hS4, ho4⟩; refine Hid.out ?_)
  refine Lib.hid ?_
  have S4 := Lib.hid hS4
  have V4 := Lib.hid (V3.out.only (by omega) ho4)
  have O4 := Lib.hid (O3.out.trans ho4)
  have L4 : w.heap.size < w4.heap.size := V4.out.lt
  obtain ⟨c0, c1, z0, z1⟩ := V4.out
  clear hS4 ho4
  cases u
  · go_wp2_with (go_at_call 54; refine (one_draw w0 _ bs sv zs _ 3 (by omega) (by omega) (by omega) S4.out).mono ?_; rintro e w5 ⟨_, ⟨v, rfl⟩, rfl, hS5, ho5⟩; refine Hid.out ?_)
    refine Lib.hid ?_
    have S5 := Lib.hid hS5
    have V5 := Lib.hid (V4.out.only (by omega) ho5)
    have O5 := Lib.hid (O4.out.trans ho5)
    have L5 : w.heap.size < w5.heap.size := V5.out.lt
    obtain ⟨c0, c1, z0, z1⟩ := V5.out
    clear hS5 ho5
    cases v
    · go_wp2_with (fail)
      refine bodyPost_ret (v := .agg #[.int .i64 (10000 + a * 100), .int .i64 (10000 + b * 100)]) (by simp [results, Tryd.results44, go_sem, *]) rfl ?_
      exact ⟨_, ⟨(10000 + a * 100), (10000 + b * 100), by omega, by omega, by omega, by omega, rfl⟩, rfl, ((S5.out.more (by omega)).put (by omega) (by omega) _).put (by omega) (by omega) _, (O5.out.put (.inr (Nat.le_refl _)) _).put (.inr (Nat.le_refl _)) _⟩
    · go_wp2_with (go_at_call 26; refine (pick_draw w0 _ bs sv zs _ 200 (by omega) (by omega) (by omega) S5.out).mono ?_; rintro e w6 ⟨_, ⟨q, q0, q1, rfl⟩, rfl, hS6, ho6⟩; refine Hid.out ?_)
      refine Lib.hid ?_
      have S6 := Lib.hid hS6
      have V6 := Lib.hid (V5.out.only (by omega) ho6)
      have O6 := Lib.hid (O5.out.trans ho6)
      have L6 : w.heap.size < w6.heap.size := V6.out.lt
      obtain ⟨c0, c1, z0, z1⟩ := V6.out
      clear hS6 ho6
      go_wp2_with (fail)
      refine bodyPost_ret (v := .agg #[.int .i64 (10000 + a * 100), .int .i64 (10000 + b * 100 + q)]) (by simp [results, Tryd.results44, go_sem, *]) rfl ?_
      exact ⟨_, ⟨(10000 + a * 100), (10000 + b * 100 + q), by omega, by omega, by omega, by omega, rfl⟩, rfl, ((S6.out.more (by omega)).put (by omega) (by omega) _).put (by omega) (by omega) _, (O6.out.put (.inr (Nat.le_refl _)) _).put (.inr (Nat.le_refl _)) _⟩
  · go_wp2_with (go_at_call 26; refine (pick_draw w0 _ bs sv zs _ 200 (by omega) (by omega) (by omega) S4.out).mono ?_; rintro e w5 ⟨_, ⟨p, p0, p1, rfl⟩, rfl, hS5, ho5⟩; refine Hid.out ?_)
    refine Lib.hid ?_
    have S5 := Lib.hid hS5
    have V5 := Lib.hid (V4.out.only (by omega) ho5)
    have O5 := Lib.hid (O4.out.trans ho5)
    have L5 : w.heap.size < w5.heap.size := V5.out.lt
    obtain ⟨c0, c1, z0, z1⟩ := V5.out
    clear hS5 ho5
    go_wp2_with (go_at_call 54; refine (one_draw w0 _ bs sv zs _ 3 (by omega) (by omega) (by omega) S5.out).mono ?_; rintro e w6 ⟨_, ⟨v, rfl⟩, rfl, hS6, ho6⟩; refine Hid.out ?_)
    refine Lib.hid ?_
    have S6 := Lib.hid hS6
    have V6 := Lib.hid (V5.out.only (by omega) ho6)
    have O6 := Lib.hid (O5.out.trans ho6)
    have L6 : w.heap.size < w6.heap.size := V6.out.lt
    obtain ⟨c0, c1, z0, z1⟩ := V6.out
    clear hS6 ho6
    cases v
    · go_wp2_with (fail)
      refine bodyPost_ret (v := .agg #[.int .i64 (10000 + a * 100 + p), .int .i64 (10000 + b * 100)]) (by simp [results, Tryd.results44, go_sem, *]) rfl ?_
      exact ⟨_, ⟨(10000 + a * 100 + p), (10000 + b * 100), by omega, by omega, by omega, by omega, rfl⟩, rfl, ((S6.out.more (by omega)).put (by omega) (by omega) _).put (by omega) (by omega) _, (O6.out.put (.inr (Nat.le_refl _)) _).put (.inr (Nat.le_refl _)) _⟩
    · go_wp2_with (go_at_call 26; refine (pick_draw w0 _ bs sv zs _ 200 (by omega) (by omega) (by omega) S6.out).mono ?_; rintro e w7 ⟨_, ⟨q, q0, q1, rfl⟩, rfl, hS7, ho7⟩; refine Hid.out ?_)
      refine Lib.hid ?_
      have S7 := Lib.hid hS7
      have V7 := Lib.hid (V6.out.only (by omega) ho7)
      have O7 := Lib.hid (O6.out.trans ho7)
      have L7 : w.heap.size < w7.heap.size := V7.out.lt
      obtain ⟨c0, c1, z0, z1⟩ := V7.out
      clear hS7 ho7
      go_wp2_with (fail)
      refine bodyPost_ret (v := .agg #[.int .i64 (10000 + a * 100 + p), .int .i64 (10000 + b * 100 + q)]) (by simp [results, Tryd.results44, go_sem, *]) rfl ?_
      exact ⟨_, ⟨(10000 + a * 100 + p), (10000 + b * 100 + q), by omega, by omega, by omega, by omega, rfl⟩, rfl, ((S7.out.more (by omega)).put (by omega) (by omega) _).put (by omega) (by omega) _, (O7.out.put (.inr (Nat.le_refl _)) _).put (.inr (Nat.le_refl _)) _⟩
end Go.Proofs.YtochniaofmeheaaDoor
