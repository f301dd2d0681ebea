/- The source's choices: a number below n, once in n, one of some. The draws of points and angles. The draws of points that are valid, mostly, and of angles. -/
import Derived.Test.YthggoboljkdldabGreatDoorDrwM
import Derived.Deep.RegionHeld3
namespace Go.Proofs.YthggoboljkdldabGreatDoor
open Go.ChangeShapes Go.WideShapes Go.ChangeAt Go.RowKit Pm

/-- A new source. -/
theorem from_new (w : World) (sv : Value) (zs : List Int) (h : ArgIn .u8 w sv zs) (hz : BytesAre zs) (hl : zs.length ≤ 1048576) :
    Calls Tryz.prog 17 #[sv] w fun e w' => e = .returned (.pointer (some ⟨w.heap.size, 0, none⟩)) ∧ Src w w.heap.size sv zs 0 w' ∧ Below w.heap.size w w' := by
  have hA := Lib.hid h
  obtain ⟨a, c, rfl⟩ := h.len
  clear h
  go_enter Tryz.func17, Tryz.ntmps17
  go_wp2
  go_ret
  refine ⟨rfl, ⟨hA.out, hz, hl, Nat.le_refl _, (Below.refl _ _).alloc (Nat.le_refl _) _, 0, 0, Nat.le_refl _, ?_, ?_, ?_, ?_, ?_⟩, (Below.refl _ _).alloc (Nat.le_refl _) _⟩ <;> (first | (simp; done) | (go_simp; done) | go_cell)

def PickP (n : Int) (v : Value) : Prop := ∃ x : Int, 0 ≤ x ∧ x < n ∧ v = .int .i64 x

theorem pick_draw (w0 w : World) (bs : Nat) (sv : Value) (zs : List Int) (k : Nat) (n : Int) (hk : k ≤ 900000) (n0 : 1 ≤ n) (n1 : n ≤ 1000000000) (h : Src w0 bs sv zs k w) :
    Calls Tryz.prog 19 #[.pointer (some ⟨bs, 0, none⟩), .int .i64 n] w (Drawn (PickP n) w0 bs sv zs (k + 2) w) := by
  by_cases hn : n ≤ 1
  · obtain rfl : n = 1 := by omega
    have H := Lib.hid (h.more (show k ≤ k + 2 by omega))
    clear h
    go_enter Tryz.func19, Tryz.ntmps19
    go_wp2
    go_ret
    exact ⟨_, ⟨0, by omega, by omega, rfl⟩, rfl, H.out, Only.refl _ _⟩
  · have H1 := Lib.hid (next_draw w0 w bs sv zs k (by omega) h)
    clear h
    by_cases h2 : 200 < n
    · go_enter Tryz.func19, Tryz.ntmps19
      go_wp2_with (go_at_call 41; refine H1.out.mono ?_; rintro e w2 ⟨_, ⟨x, x0, x1, rfl⟩, rfl, hS2, ho2⟩; refine Hid.out ?_)
      refine Lib.hid ?_
      have H2 := Lib.hid (next_draw w0 w2 bs sv zs (k + 1) (by omega) hS2)
      have HO2 := Lib.hid ho2
      clear hS2 ho2
      go_wp2_with (go_at_call 41; refine H2.out.mono ?_; rintro e w3 ⟨_, ⟨y, y0, y1, rfl⟩, rfl, hS3, ho3⟩; refine Hid.out ?_)
      refine Lib.hid ?_
      have HS3 := Lib.hid hS3
      have HO3 := Lib.hid (HO2.out.trans ho3)
      clear hS3 ho3
      go_wp2_with (fail)
      go_ret
      exact ⟨_, ⟨(x * 256 + y) % n, Int.emod_nonneg _ (by omega), Int.emod_lt_of_pos _ (by omega), rfl⟩, rfl, HS3.out, HO3.out⟩
    · go_enter Tryz.func19, Tryz.ntmps19
      go_wp2_with (go_at_call 41; refine H1.out.mono ?_; rintro e w2 ⟨_, ⟨x, x0, x1, rfl⟩, rfl, hS2, ho2⟩; refine Hid.out ?_)
      refine Lib.hid ?_
      have HS2 := Lib.hid (hS2.more (show k + 1 ≤ k + 2 by omega))
      have HO2 := Lib.hid ho2
      clear hS2 ho2
      go_wp2_with (fail)
      go_ret
      exact ⟨_, ⟨x % n, Int.emod_nonneg _ (by omega), Int.emod_lt_of_pos _ (by omega), rfl⟩, rfl, HS2.out, HO2.out⟩

theorem one_draw (w0 w : World) (bs : Nat) (sv : Value) (zs : List Int) (k : Nat) (n : Int) (hk : k ≤ 900000) (n0 : 1 ≤ n) (n1 : n ≤ 1000000000) (h : Src w0 bs sv zs k w) :
    Calls Tryz.prog 33 #[.pointer (some ⟨bs, 0, none⟩), .int .i64 n] w (Drawn (fun v => ∃ b : Bool, v = .bool b) w0 bs sv zs (k + 2) w) := by
  have H1 := Lib.hid (pick_draw w0 w bs sv zs k n hk n0 n1 h)
  clear h
  go_enter Tryz.func33, Tryz.ntmps33
  go_wp2_with (go_at_call 19; refine H1.out.mono ?_; rintro e w2 ⟨_, ⟨x, x0, x1, rfl⟩, rfl, hS2, ho2⟩; refine Hid.out ?_)
  refine Lib.hid ?_
  have HS2 := Lib.hid hS2
  have HO2 := Lib.hid ho2
  clear hS2 ho2
  go_wp2_with (fail)
  go_ret
  exact ⟨_, ⟨_, rfl⟩, rfl, HS2.out, HO2.out⟩

theorem among_draw (w0 w : World) (bs : Nat) (sv : Value) (zs : List Int) (k : Nat) (b : Nat) (cap : Nat) (xs : List Int) (hk : k ≤ 900000) (x0 : 1 ≤ xs.length) (x1 : xs.length ≤ 1000000) (hb : b ≠ bs)
    (hc : ∀ i, i < xs.length → w.cell? ⟨b, i, none⟩ = some (.int .i64 (xs.getD i 0))) (h : Src w0 bs sv zs k w) :
    Calls Tryz.prog 20 #[.pointer (some ⟨bs, 0, none⟩), .slice (some ⟨b, 0, none⟩) xs.length cap] w (Drawn (fun v => ∃ m, m ∈ xs ∧ v = .int .i64 m) w0 bs sv zs (k + 2) w) := by
  have H1 := Lib.hid (pick_draw w0 w bs sv zs k xs.length hk (by omega) (by omega) h)
  have HC := Lib.hid hc
  clear h hc
  go_enter Tryz.func20, Tryz.ntmps20
  go_wp2_with (go_at_call 19; refine H1.out.mono ?_; rintro e w2 ⟨_, ⟨x, x0, x1, rfl⟩, rfl, hS2, ho2⟩; refine Hid.out ?_)
  refine Lib.hid ?_
  obtain ⟨i, rfl⟩ := Int.eq_ofNat_of_zero_le x0
  have hi : i < xs.length := by omega
  have hcell := cell_only (HC.out i hi) hb ho2
  have HV := Lib.hid (show ∃ m, m ∈ xs ∧ Value.int .i64 (xs.getD i 0) = .int .i64 m from ⟨_, by rw [List.getD_eq_getElem?_getD, List.getElem?_eq_getElem hi]; exact List.getElem_mem _, rfl⟩)
  have HS2 := Lib.hid hS2
  have HO2 := Lib.hid ho2
  clear hS2 ho2
  generalize xs.getD i 0 = y at hcell HV
  go_wp2_with (fail)
  go_ret
  exact ⟨_, HV.out, rfl, HS2.out, HO2.out⟩
end Go.Proofs.YthggoboljkdldabGreatDoor
namespace Go.Proofs.YthggoboljkdldabGreatDoor
open Go.ChangeShapes Go.WideShapes Go.ChangeAt Go.RowKit Pm

/-- A variable of two cells that may be written. -/
structure Var2 (b : Nat) (x y : Value) (w : World) : Prop where
  c0 : w.cell? ⟨b, 0, none⟩ = some x
  c1 : w.cell? ⟨b, 1, none⟩ = some y
  z0 : w.frozen? ⟨b, 0, none⟩ = false
  z1 : w.frozen? ⟨b, 1, none⟩ = false
theorem Var2.lt {b : Nat} {x y : Value} {w : World} (v : Var2 b x y w) : b < w.heap.size := cell_lt v.c0
theorem Var2.below {b : Nat} {x y : Value} {w w' : World} (v : Var2 b x y w) (hb : Below w.heap.size w w') : Var2 b x y w' :=
  ⟨cell_below v.c0 hb, cell_below v.c1 hb, frozen_bel v.z0 v.lt hb, frozen_bel v.z1 v.lt hb⟩
theorem Var2.drew {b : Nat} {x y : Value} {w : World} (v : Var2 b x y w) : Var2 b x y w.drew := v.below (Below.refl _ _).drew
theorem Var2.alloc {b : Nat} {x y : Value} {w : World} (v : Var2 b x y w) (o : Obj) : Var2 b x y (w.alloc o) := v.below ((Below.refl _ _).alloc (Nat.le_refl _) _)
theorem Var2.only {b bs : Nat} {x y : Value} {w w' : World} (v : Var2 b x y w) (n : b ≠ bs) (t : Only bs w w') : Var2 b x y w' :=
  ⟨cell_only v.c0 n t, cell_only v.c1 n t, frozen_only v.z0 v.lt n t, frozen_only v.z1 v.lt n t⟩
theorem Var2.new (w : World) (x y : Value) (T : TypeId) : Var2 w.heap.size x y (w.alloc (.cells #[x, y] T)) := by
  refine ⟨by simp, by simp, ?_, ?_⟩ <;> go_simp
theorem Var2.put {b g j : Nat} {x y : Value} {w : World} (v : Var2 b x y w) (n : b ≠ g) (u : Value) : Var2 b x y (w.setCell ⟨g, j, none⟩ u) :=
  ⟨cell_apart n v.c0, cell_apart n v.c1, by rw [World.frozen?_setCell]; exact v.z0, by rw [World.frozen?_setCell]; exact v.z1⟩
theorem Var2.set0 {b : Nat} {x y : Value} {w : World} (v : Var2 b x y w) (u : Value) : Var2 b u y (w.setCell ⟨b, 0, none⟩ u) :=
  ⟨World.cell?_setCell_same _ _ _ v.c0, by rw [World.cell?_setCell_other _ _ _ _ (by intro e; injection e with _ e; omega)]; exact v.c1, by rw [World.frozen?_setCell]; exact v.z0, by rw [World.frozen?_setCell]; exact v.z1⟩
theorem Var2.set1 {b : Nat} {x y : Value} {w : World} (v : Var2 b x y w) (u : Value) : Var2 b x u (w.setCell ⟨b, 1, none⟩ u) :=
  ⟨by rw [World.cell?_setCell_other _ _ _ _ (by intro e; injection e with _ e; omega)]; exact v.c0, World.cell?_setCell_same _ _ _ v.c1, by rw [World.frozen?_setCell]; exact v.z0, by rw [World.frozen?_setCell]; exact v.z1⟩

theorem lit_at (W : World) (xs : List Int) (T : TypeId) (B : Nat) (h : W.heap.size = B) : ∀ i, i < xs.length → (W.alloc (.cells (xs.map (Value.int .i64)).toArray T)).cell? ⟨B, i, none⟩ = some (.int .i64 (xs.getD i 0)) := by
  subst h
  intro i hi
  have h := (MapKept.heap_alloc W (.cells (xs.map (Value.int .i64)).toArray T)).1
  simp only [World.cell?, h]
  simp [hi]
/-- A point within bounds. -/
def PtP (lo hi : Int) (v : Value) : Prop := ∃ x y : Int, lo ≤ x ∧ x ≤ hi ∧ lo ≤ y ∧ y ≤ hi ∧ v = .agg #[.int .i64 x, .int .i64 y]

set_option maxRecDepth 100000 in
set_option maxHeartbeats 1000000 in
theorem pt_draw (w0 w : World) (bs : Nat) (sv : Value) (zs : List Int) (k : Nat) (hk : k ≤ 800000) (h : Src w0 bs sv zs k w) :
    Calls Tryz.prog 40 #[.pointer (some ⟨bs, 0, none⟩)] w (Drawn (PtP 10000 30000) w0 bs sv zs (k + 14) w) := by
  have hlt := h.lt
  have hw0 := h.bel.size
  have HS := Lib.hid h
  clear h
  go_enter Tryz.func40, Tryz.ntmps40
  go_wp2_with (go_at_call 20; refine (among_draw w0 _ bs sv zs k _ _ [20, 100, 100, 100] (by omega) (by simp) (by simp) (by omega) (lit_at _ _ _ _ (by simp)) ((HS.out.alloc _).alloc _)).mono ?_; rintro e w1 ⟨_, ⟨m, hm, rfl⟩, rfl, hS1, ho1⟩; refine Hid.out ?_)
  refine Lib.hid ?_
  obtain ⟨m0, m1⟩ : 20 ≤ m ∧ m ≤ 100 := by simp at hm; omega
  have S1 := Lib.hid hS1
  have V1 := Lib.hid (((Var2.new w (.int .i64 0) (.int .i64 0) 25).alloc _).only (by omega) ho1)
  have O1 := Lib.hid ((((Only.refl bs w).alloc _).alloc _).trans ho1)
  have L1 : w.heap.size < w1.heap.size := V1.out.lt
  obtain ⟨c0, c1, z0, z1⟩ := V1.out
  clear hS1 ho1 hm
  go_wp2_with (go_at_call 19; refine (pick_draw w0 _ bs sv zs _ m (by omega) (by omega) (by omega) S1.out).mono ?_; rintro e w2 ⟨_, ⟨a, a0, a1, rfl⟩, rfl, hS2, ho2⟩; refine Hid.out ?_)
  refine Lib.hid ?_
  have S2 := Lib.hid hS2
  have V2 := Lib.hid (V1.out.only (by omega) ho2)
  have O2 := Lib.hid (O1.out.trans ho2)
  have L2 : w.heap.size < w2.heap.size := V2.out.lt
  obtain ⟨c0, c1, z0, z1⟩ := V2.out
  clear hS2 ho2
  go_wp2_with (go_at_call 19; refine (pick_draw w0 _ bs sv zs _ m (by omega) (by omega) (by omega) S2.out).mono ?_; rintro e w3 ⟨_, ⟨b, b0, b1, rfl⟩, rfl, hS3, ho3⟩; refine Hid.out ?_)
  refine Lib.hid ?_
  have S3 := Lib.hid hS3
  have V3 := Lib.hid (V2.out.only (by omega) ho3)
  have O3 := Lib.hid (O2.out.trans ho3)
  have L3 : w.heap.size < w3.heap.size := V3.out.lt
  obtain ⟨c0, c1, z0, z1⟩ := V3.out
  clear hS3 ho3
  go_wp2_with (go_at_call 33; refine (one_draw w0 _ bs sv zs _ 3 (by omega) (by omega) (by omega) S3.out).mono ?_; rintro e w4 ⟨_, ⟨u, rfl⟩, rfl, hS4, ho4⟩; refine Hid.out ?_)
  refine Lib.hid ?_
  have S4 := Lib.hid hS4
  have V4 := Lib.hid (V3.out.only (by omega) ho4)
  have O4 := Lib.hid (O3.out.trans ho4)
  have L4 : w.heap.size < w4.heap.size := V4.out.lt
  obtain ⟨c0, c1, z0, z1⟩ := V4.out
  clear hS4 ho4
  cases u
  · go_wp2_with (go_at_call 33; refine (one_draw w0 _ bs sv zs _ 3 (by omega) (by omega) (by omega) S4.out).mono ?_; rintro e w5 ⟨_, ⟨v, rfl⟩, rfl, hS5, ho5⟩; refine Hid.out ?_)
    refine Lib.hid ?_
    have S5 := Lib.hid hS5
    have V5 := Lib.hid (V4.out.only (by omega) ho5)
    have O5 := Lib.hid (O4.out.trans ho5)
    have L5 : w.heap.size < w5.heap.size := V5.out.lt
    obtain ⟨c0, c1, z0, z1⟩ := V5.out
    clear hS5 ho5
    cases v
    · go_wp2_with (fail)
      refine bodyPost_ret (v := .agg #[.int .i64 (10000 + a * 100), .int .i64 (10000 + b * 100)]) (by simp [results, Tryz.results40, go_sem, *]) rfl ?_
      exact ⟨_, ⟨(10000 + a * 100), (10000 + b * 100), by omega, by omega, by omega, by omega, rfl⟩, rfl, ((S5.out.more (by omega)).put (by omega) (by omega) _).put (by omega) (by omega) _, (O5.out.put (.inr (Nat.le_refl _)) _).put (.inr (Nat.le_refl _)) _⟩
    · go_wp2_with (go_at_call 19; refine (pick_draw w0 _ bs sv zs _ 200 (by omega) (by omega) (by omega) S5.out).mono ?_; rintro e w6 ⟨_, ⟨q, q0, q1, rfl⟩, rfl, hS6, ho6⟩; refine Hid.out ?_)
      refine Lib.hid ?_
      have S6 := Lib.hid hS6
      have V6 := Lib.hid (V5.out.only (by omega) ho6)
      have O6 := Lib.hid (O5.out.trans ho6)
      have L6 : w.heap.size < w6.heap.size := V6.out.lt
      obtain ⟨c0, c1, z0, z1⟩ := V6.out
      clear hS6 ho6
      go_wp2_with (fail)
      refine bodyPost_ret (v := .agg #[.int .i64 (10000 + a * 100), .int .i64 (10000 + b * 100 + q)]) (by simp [results, Tryz.results40, go_sem, *]) rfl ?_
      exact ⟨_, ⟨(10000 + a * 100), (10000 + b * 100 + q), by omega, by omega, by omega, by omega, rfl⟩, rfl, ((S6.out.more (by omega)).put (by omega) (by omega) _).put (by omega) (by omega) _, (O6.out.put (.inr (Nat.le_refl _)) _).put (.inr (Nat.le_refl _)) _⟩
  · go_wp2_with (go_at_call 19; refine (pick_draw w0 _ bs sv zs _ 200 (by omega) (by omega) (by omega) S4.out).mono ?_; rintro e w5 ⟨_, ⟨p, p0, p1, rfl⟩, rfl, hS5, ho5⟩; refine Hid.out ?_)
    refine Lib.hid ?_
    have S5 := Lib.hid hS5
    have V5 := Lib.hid (V4.out.only (by omega) ho5)
    have O5 := Lib.hid (O4.out.trans ho5)
    have L5 : w.heap.size < w5.heap.size := V5.out.lt
    obtain ⟨c0, c1, z0, z1⟩ := V5.out
    clear hS5 ho5
    go_wp2_with (go_at_call 33; refine (one_draw w0 _ bs sv zs _ 3 (by omega) (by omega) (by omega) S5.out).mono ?_; rintro e w6 ⟨_, ⟨v, rfl⟩, rfl, hS6, ho6⟩; refine Hid.out ?_)
    refine Lib.hid ?_
    have S6 := Lib.hid hS6
    have V6 := Lib.hid (V5.out.only (by omega) ho6)
    have O6 := Lib.hid (O5.out.trans ho6)
    have L6 : w.heap.size < w6.heap.size := V6.out.lt
    obtain ⟨c0, c1, z0, z1⟩ := V6.out
    clear hS6 ho6
    cases v
    · go_wp2_with (fail)
      refine bodyPost_ret (v := .agg #[.int .i64 (10000 + a * 100 + p), .int .i64 (10000 + b * 100)]) (by simp [results, Tryz.results40, go_sem, *]) rfl ?_
      exact ⟨_, ⟨(10000 + a * 100 + p), (10000 + b * 100), by omega, by omega, by omega, by omega, rfl⟩, rfl, ((S6.out.more (by omega)).put (by omega) (by omega) _).put (by omega) (by omega) _, (O6.out.put (.inr (Nat.le_refl _)) _).put (.inr (Nat.le_refl _)) _⟩
    · go_wp2_with (go_at_call 19; refine (pick_draw w0 _ bs sv zs _ 200 (by omega) (by omega) (by omega) S6.out).mono ?_; rintro e w7 ⟨_, ⟨q, q0, q1, rfl⟩, rfl, hS7, ho7⟩; refine Hid.out ?_)
      refine Lib.hid ?_
      have S7 := Lib.hid hS7
      have V7 := Lib.hid (V6.out.only (by omega) ho7)
      have O7 := Lib.hid (O6.out.trans ho7)
      have L7 : w.heap.size < w7.heap.size := V7.out.lt
      obtain ⟨c0, c1, z0, z1⟩ := V7.out
      clear hS7 ho7
      go_wp2_with (fail)
      refine bodyPost_ret (v := .agg #[.int .i64 (10000 + a * 100 + p), .int .i64 (10000 + b * 100 + q)]) (by simp [results, Tryz.results40, go_sem, *]) rfl ?_
      exact ⟨_, ⟨(10000 + a * 100 + p), (10000 + b * 100 + q), by omega, by omega, by omega, by omega, rfl⟩, rfl, ((S7.out.more (by omega)).put (by omega) (by omega) _).put (by omega) (by omega) _, (O7.out.put (.inr (Nat.le_refl _)) _).put (.inr (Nat.le_refl _)) _⟩
end Go.Proofs.YthggoboljkdldabGreatDoor
namespace Go.Proofs.YthggoboljkdldabGreatDoor
open Go.ChangeShapes Go.WideShapes Go.ChangeAt Go.RowKit Pm

set_option maxRecDepth 100000 in
set_option maxHeartbeats 1000000 in
theorem bent_draw (w0 w : World) (bs : Nat) (sv : Value) (zs : List Int) (k : Nat) (hk : k ≤ 700000) (h : Src w0 bs sv zs k w) :
    Calls Tryz.prog 18 #[.pointer (some ⟨bs, 0, none⟩)] w (Drawn (PtP (-1) 200001) w0 bs sv zs (k + 18) w) := by
  have hlt := h.lt
  have hw0 := h.bel.size
  have HS := Lib.hid h
  clear h
  go_enter Tryz.func18, Tryz.ntmps18
  go_wp2_with (go_at_call 40; refine (pt_draw w0 _ bs sv zs k (by omega) (HS.out.alloc _)).mono ?_; rintro e w1 ⟨_, ⟨x, y, x0, x1, y0, y1, rfl⟩, rfl, hS1, ho1⟩; refine Hid.out ?_)
  refine Lib.hid ?_
  have S1 := Lib.hid hS1
  have V1 := Lib.hid ((Var2.new w (.int .i64 0) (.int .i64 0) 25).only (by omega) ho1)
  have O1 := Lib.hid (((Only.refl bs w).alloc _).trans ho1)
  have L1 : w.heap.size < w1.heap.size := V1.out.lt
  have B1 : bs < w1.heap.size := hS1.lt
  obtain ⟨c0, c1, z0, z1⟩ := V1.out
  clear hS1 ho1
  go_wp2_with (go_at_call 19; refine (pick_draw w0 _ bs sv zs _ 30 (by omega) (by omega) (by omega) (S1.out.alloc _)).mono ?_; rintro e w2 ⟨_, ⟨c, c0', c1', rfl⟩, rfl, hS2, ho2⟩; refine Hid.out ?_)
  refine Lib.hid ?_
  have S2 := Lib.hid hS2
  have V2 := Lib.hid ((V1.out.alloc _).only (by omega) ho2)
  have P2 := Lib.hid ((Var2.new w1 (.int .i64 x) (.int .i64 y) 25).only (by omega) ho2)
  have O2 := Lib.hid ((O1.out.alloc _).trans ho2)
  have L2 : w.heap.size < w2.heap.size := V2.out.lt
  have K2 : w1.heap.size < w2.heap.size := P2.out.lt
  have B2 : bs < w2.heap.size := hS2.lt
  clear hS2 ho2 c0 c1 z0 z1
  by_cases e0 : c = 0
  · subst e0
    obtain ⟨c0, c1, z0, z1⟩ := V2.out
    obtain ⟨d0, d1, u0, u1⟩ := P2.out
    go_wp2_with (go_at_call 20; refine (among_draw w0 _ bs sv zs _ _ _ [0, -1, 200000, 200001] (by omega) (by simp) (by simp) (by omega) (lit_at _ _ _ _ (by simp)) (S2.out.alloc _)).mono ?_; rintro e w3 ⟨_, ⟨m, hm, rfl⟩, rfl, hS3, ho3⟩; refine Hid.out ?_)
    refine Lib.hid ?_
    obtain ⟨m0, m1⟩ : -1 ≤ m ∧ m ≤ 200001 := by simp at hm; omega
    have S3 := Lib.hid hS3
    have V3 := Lib.hid ((V2.out.alloc _).only (by omega) ho3)
    have P3 := Lib.hid ((P2.out.alloc _).only (by omega) ho3)
    have O3 := Lib.hid ((O2.out.alloc _).trans ho3)
    have L3 : w.heap.size < w3.heap.size := V3.out.lt
    have K3 : w1.heap.size < w3.heap.size := P3.out.lt
    obtain ⟨c0, c1, z0, z1⟩ := V3.out
    obtain ⟨d0, d1, u0, u1⟩ := P3.out
    clear hS3 ho3 hm
    go_wp2_with (fail)
    refine bodyPost_ret (v := .agg #[.int .i64 m, .int .i64 y]) (by simp [results, Tryz.results18, go_sem, *]) rfl ?_
    exact ⟨_, ⟨m, y, by omega, by omega, by omega, by omega, rfl⟩, rfl, (((S3.out.more (by omega)).put (by omega) (by omega) _).put (by omega) (by omega) _).put (by omega) (by omega) _, (((O3.out).put (.inr (by omega)) _).put (.inr (by omega)) _).put (.inr (by omega)) _⟩
  · have e0' : (c == 0) = false := by simp [e0]
    by_cases e1 : c = 1
    · subst e1
      obtain ⟨c0, c1, z0, z1⟩ := V2.out
      obtain ⟨d0, d1, u0, u1⟩ := P2.out
      go_wp2_with (go_at_call 20; refine (among_draw w0 _ bs sv zs _ _ _ [0, -1, 200000, 200001] (by omega) (by simp) (by simp) (by omega) (lit_at _ _ _ _ (by simp)) (S2.out.alloc _)).mono ?_; rintro e w3 ⟨_, ⟨m, hm, rfl⟩, rfl, hS3, ho3⟩; refine Hid.out ?_)
      refine Lib.hid ?_
      obtain ⟨m0, m1⟩ : -1 ≤ m ∧ m ≤ 200001 := by simp at hm; omega
      have S3 := Lib.hid hS3
      have V3 := Lib.hid ((V2.out.alloc _).only (by omega) ho3)
      have P3 := Lib.hid ((P2.out.alloc _).only (by omega) ho3)
      have O3 := Lib.hid ((O2.out.alloc _).trans ho3)
      have L3 : w.heap.size < w3.heap.size := V3.out.lt
      have K3 : w1.heap.size < w3.heap.size := P3.out.lt
      obtain ⟨c0, c1, z0, z1⟩ := V3.out
      obtain ⟨d0, d1, u0, u1⟩ := P3.out
      clear hS3 ho3 hm
      go_wp2_with (fail)
      refine bodyPost_ret (v := .agg #[.int .i64 x, .int .i64 m]) (by simp [results, Tryz.results18, go_sem, *]) rfl ?_
      exact ⟨_, ⟨x, m, by omega, by omega, by omega, by omega, rfl⟩, rfl, (((S3.out.more (by omega)).put (by omega) (by omega) _).put (by omega) (by omega) _).put (by omega) (by omega) _, (((O3.out).put (.inr (by omega)) _).put (.inr (by omega)) _).put (.inr (by omega)) _⟩
    · have e1' : (c == 1) = false := by simp [e1]
      obtain ⟨c0, c1, z0, z1⟩ := V2.out
      obtain ⟨d0, d1, u0, u1⟩ := P2.out
      go_wp2_with (fail)
      refine bodyPost_ret (v := .agg #[.int .i64 x, .int .i64 y]) (by simp [results, Tryz.results18, go_sem, *]) rfl ?_
      exact ⟨_, ⟨x, y, by omega, by omega, by omega, by omega, rfl⟩, rfl, ((S2.out.more (by omega)).put (by omega) (by omega) _).put (by omega) (by omega) _, ((O2.out).put (.inr (by omega)) _).put (.inr (by omega)) _⟩


def AngP (v : Value) : Prop := ∃ x : Int, -9223372036854775808 ≤ x ∧ x ≤ 9223372036854775807 ∧ v = .int .i64 x
end Go.Proofs.YthggoboljkdldabGreatDoor
