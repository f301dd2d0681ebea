/- Facts for the law of places. Cells kept through the regions of the law of places. Regions that draw their order and call what makes memory of its own: one walk, over a class of worlds. Classes of worlds that keep some cells. -/
import Derived.Test.YthggoboljkdldabGreatDoorBtwYM
import Derived.Test.YthggoboljkdldabGreatDoorGap
import Derived.Test.YthggoboljkdldabGreatDoorNearM
import Derived.Test.YthggoboljkdldabGreatDoorDrwN
import Derived.BigQuiet
namespace Go.Proofs.YthggoboljkdldabGreatDoor
open Go.ChangeShapes Go.WideShapes Go.ChangeAt Go.RowKit Pm

theorem dist_comm {ax ay bx cy r : Int} (h : DistIs ax ay bx cy r) : DistIs bx cy ax ay r := by
  unfold DistIs at h ⊢
  rw [Bool.and_comm, sqd_comm]
  exact h
theorem dist_lim {ax ay bx cy r : Int} (h : DistIs ax ay bx cy r) : 0 ≤ r ∧ r ≤ 3037000499 := by
  unfold DistIs at h
  split at h
  · exact ⟨h.1, h.2.1⟩
  · omega
theorem all3_swap (ax ay bx cy px py : Int) : allOk3 bx cy ax ay px py = allOk3 ax ay bx cy px py := by
  unfold allOk3
  cases okB (ax, ay) <;> cases okB (bx, cy) <;> rfl
theorem gap_swap {ax ay bx cy px py r : Int} (h : GapR ax ay bx cy px py r) : GapR bx cy ax ay px py r := by
  unfold GapR at h ⊢
  rw [all3_swap]
  by_cases hc : allOk3 ax ay bx cy px py = true
  · rw [if_pos hc] at h ⊢; exact h.symm
  · rw [if_neg hc] at h ⊢; exact h
theorem gap_lim {ax ay bx cy px py r : Int} (h : GapR ax ay bx cy px py r) : 0 ≤ r := by
  unfold GapR at h
  split at h
  · exact h.nn
  · omega
theorem side_swap (ax ay bx cy px py : Int) : sideR bx cy ax ay px py = -sideR ax ay bx cy px py := by
  unfold sideR
  rw [all3_swap, cross_back]
  by_cases hc : allOk3 ax ay bx cy px py = true
  · rw [if_pos hc, if_pos hc, sgn_neg]
  · rw [if_neg hc, if_neg hc]; rfl
theorem gap_dist {ax ay bx cy px py r d : Int} (ha : okB (ax, ay) = true) (hb : okB (bx, cy) = true) (hp : okB (px, py) = true) (h : GapR ax ay bx cy px py r) (k : DistIs ax ay px py d) : r ≤ d := by
  unfold GapR at h
  rw [if_pos (by simp [allOk3, ha, hb, hp])] at h
  unfold DistIs at k
  rw [if_pos (by simp [ha, hp])] at k
  exact h.le k
theorem gap_dist2 {ax ay bx cy px py r d : Int} (ha : okB (ax, ay) = true) (hb : okB (bx, cy) = true) (hp : okB (px, py) = true) (h : GapR ax ay bx cy px py r) (k : DistIs bx cy px py d) : r ≤ d :=
  gap_dist hb ha hp (gap_swap h) k

theorem range_back (i n : Int) : okRange (n - i) n = okRange i n := by
  unfold okRange inB
  rw [Bool.eq_iff_iff]
  simp
  omega
theorem btw_swap (ax ay bx cy i n : Int) : btwE bx cy ax ay (n - i) n = btwE ax ay bx cy i n ∧ btwPX bx cy ax ay (n - i) n = btwPX ax ay bx cy i n ∧ btwPY bx cy ax ay (n - i) n = btwPY ax ay bx cy i n := by
  have hE : btwE bx cy ax ay (n - i) n = btwE ax ay bx cy i n := by
    unfold btwE
    rw [range_back, Bool.and_comm]
  refine ⟨hE, ?_, ?_⟩
  · unfold btwPX
    rw [hE]
    split
    · rename_i h0
      have hn : 0 < n := by
        unfold btwE at h0
        split at h0
        · split at h0
          · rename_i hr
            simp [okRange, inB] at hr
            omega
          · omega
        · omega
      exact (btw_back ax ay bx cy i n hn).1
    · rfl
  · unfold btwPY
    rw [hE]
    split
    · rename_i h0
      have hn : 0 < n := by
        unfold btwE at h0
        split at h0
        · split at h0
          · rename_i hr
            simp [okRange, inB] at hr
            omega
          · omega
        · omega
      exact (btw_back ax ay bx cy i n hn).2
    · rfl
/-- Where there is a point between: valid ends, a valid point, no way round, no gap. -/
theorem btw_yes {ax ay bx cy i n : Int} (h0 : btwE ax ay bx cy i n = 0) :
    (∀ r s t, DistIs ax ay bx cy r → DistIs ax ay (btwPX ax ay bx cy i n) (btwPY ax ay bx cy i n) s → DistIs (btwPX ax ay bx cy i n) (btwPY ax ay bx cy i n) bx cy t → r ≤ s + t + 1) ∧
    ∀ g, GapR ax ay bx cy (btwPX ax ay bx cy i n) (btwPY ax ay bx cy i n) g → g = 0 := by
  have hx : btwPX ax ay bx cy i n = btwX ax ay bx cy i n := by unfold btwPX; rw [if_pos h0]
  have hy : btwPY ax ay bx cy i n = btwY ax ay bx cy i n := by unfold btwPY; rw [if_pos h0]
  rw [hx, hy]
  have hc : (okB (ax, ay) && okB (bx, cy)) = true := by
    by_cases hc : (okB (ax, ay) && okB (bx, cy)) = true
    · exact hc
    · unfold btwE at h0; rw [if_neg hc] at h0; omega
  have hr : okRange i n = true := by
    by_cases hr : okRange i n = true
    · exact hr
    · unfold btwE at h0; rw [if_pos hc, if_neg hr] at h0; omega
  have hr' : (1 ≤ n ∧ n ≤ 1000000) ∧ 0 ≤ i ∧ i ≤ n := by simpa [okRange, inB] using hr
  obtain ⟨ha, hb⟩ : okB (ax, ay) = true ∧ okB (bx, cy) = true := by simpa using hc
  obtain ⟨a0, a1, a2, a3⟩ := vd_of ha
  obtain ⟨b0, b1, b2, b3⟩ := vd_of hb
  obtain ⟨⟨x0, x1⟩, y0, y1⟩ := btw_in (ax := ax) (ay := ay) (bx := bx) (cy := cy) (i := i) (n := n) (by omega) (by omega) (by omega) 0 200000 a0 a1 a2 a3 b0 b1 b2 b3
  have hp : okB (btwX ax ay bx cy i n, btwY ax ay bx cy i n) = true := of_vd ⟨x0, x1, y0, y1⟩
  refine ⟨fun r s t h1 h2 h3 => ?_, fun g hg => ?_⟩
  · unfold DistIs at h1 h2 h3
    rw [if_pos hc] at h1
    rw [if_pos (by simp [ha, hp])] at h2
    rw [if_pos (by simp [hb, hp])] at h3
    exact triangle h1 h2 h3
  · unfold GapR at hg
    rw [if_pos (by simp [allOk3, ha, hb, hp])] at hg
    exact btw_gap (by omega) (by omega) (by omega) hg

theorem long_is (a : Option Addr) (l c : Nat) (w : World) :
    Calls Tryz.prog 4 #[.slice a l c] w fun e w' => e = .returned (.bool (decide ((1048576 : Int) < (l : Int)))) ∧ w = w' := by
  go_enter Tryz.func4, Tryz.ntmps4
  go_wp2
  go_ret
  exact ⟨rfl, rfl⟩
end Go.Proofs.YthggoboljkdldabGreatDoor
namespace Go.Proofs.YthggoboljkdldabGreatDoor
open Go.ChangeShapes Go.WideShapes Go.ChangeAt Go.RowKit Pm

theorem keepn8 {w0 w w1 : World} {a0 a1 a2 a3 a4 a5 a6 a7 : Addr} {v0 v1 v2 v3 v4 v5 v6 v7 : Value} (hb : Below w.heap.size w w1) (h : w.cell? a0 = some v0 ∧ w.cell? a1 = some v1 ∧ w.cell? a2 = some v2 ∧ w.cell? a3 = some v3 ∧ w.cell? a4 = some v4 ∧ w.cell? a5 = some v5 ∧ w.cell? a6 = some v6 ∧ w.cell? a7 = some v7 ∧ Below w0.heap.size w0 w) : w1.cell? a0 = some v0 ∧ w1.cell? a1 = some v1 ∧ w1.cell? a2 = some v2 ∧ w1.cell? a3 = some v3 ∧ w1.cell? a4 = some v4 ∧ w1.cell? a5 = some v5 ∧ w1.cell? a6 = some v6 ∧ w1.cell? a7 = some v7 ∧ Below w0.heap.size w0 w1 := by
  obtain ⟨h0, h1, h2, h3, h4, h5, h6, h7, hB⟩ := h
  exact ⟨cell_below h0 hb, cell_below h1 hb, cell_below h2 hb, cell_below h3 hb, cell_below h4 hb, cell_below h5 hb, cell_below h6 hb, cell_below h7 hb, Below.next hB hb⟩
theorem drewn8 {w0 w : World} {a0 a1 a2 a3 a4 a5 a6 a7 : Addr} {v0 v1 v2 v3 v4 v5 v6 v7 : Value} (h : w.cell? a0 = some v0 ∧ w.cell? a1 = some v1 ∧ w.cell? a2 = some v2 ∧ w.cell? a3 = some v3 ∧ w.cell? a4 = some v4 ∧ w.cell? a5 = some v5 ∧ w.cell? a6 = some v6 ∧ w.cell? a7 = some v7 ∧ Below w0.heap.size w0 w) : w.drew.cell? a0 = some v0 ∧ w.drew.cell? a1 = some v1 ∧ w.drew.cell? a2 = some v2 ∧ w.drew.cell? a3 = some v3 ∧ w.drew.cell? a4 = some v4 ∧ w.drew.cell? a5 = some v5 ∧ w.drew.cell? a6 = some v6 ∧ w.drew.cell? a7 = some v7 ∧ Below w0.heap.size w0 w.drew := by
  obtain ⟨h0, h1, h2, h3, h4, h5, h6, h7, hB⟩ := h
  exact ⟨h0, h1, h2, h3, h4, h5, h6, h7, hB.drew⟩
theorem keepn6 {w0 w w1 : World} {a0 a1 a2 a3 a4 a5 : Addr} {v0 v1 v2 v3 v4 v5 : Value} (hb : Below w.heap.size w w1) (h : w.cell? a0 = some v0 ∧ w.cell? a1 = some v1 ∧ w.cell? a2 = some v2 ∧ w.cell? a3 = some v3 ∧ w.cell? a4 = some v4 ∧ w.cell? a5 = some v5 ∧ Below w0.heap.size w0 w) : w1.cell? a0 = some v0 ∧ w1.cell? a1 = some v1 ∧ w1.cell? a2 = some v2 ∧ w1.cell? a3 = some v3 ∧ w1.cell? a4 = some v4 ∧ w1.cell? a5 = some v5 ∧ Below w0.heap.size w0 w1 := by
  obtain ⟨h0, h1, h2, h3, h4, h5, hB⟩ := h
  exact ⟨cell_below h0 hb, cell_below h1 hb, cell_below h2 hb, cell_below h3 hb, cell_below h4 hb, cell_below h5 hb, Below.next hB hb⟩
theorem drewn6 {w0 w : World} {a0 a1 a2 a3 a4 a5 : Addr} {v0 v1 v2 v3 v4 v5 : Value} (h : w.cell? a0 = some v0 ∧ w.cell? a1 = some v1 ∧ w.cell? a2 = some v2 ∧ w.cell? a3 = some v3 ∧ w.cell? a4 = some v4 ∧ w.cell? a5 = some v5 ∧ Below w0.heap.size w0 w) : w.drew.cell? a0 = some v0 ∧ w.drew.cell? a1 = some v1 ∧ w.drew.cell? a2 = some v2 ∧ w.drew.cell? a3 = some v3 ∧ w.drew.cell? a4 = some v4 ∧ w.drew.cell? a5 = some v5 ∧ Below w0.heap.size w0 w.drew := by
  obtain ⟨h0, h1, h2, h3, h4, h5, hB⟩ := h
  exact ⟨h0, h1, h2, h3, h4, h5, hB.drew⟩
theorem keepn2 {w0 w w1 : World} {a0 a1 : Addr} {v0 v1 : Value} (hb : Below w.heap.size w w1) (h : w.cell? a0 = some v0 ∧ w.cell? a1 = some v1 ∧ Below w0.heap.size w0 w) : w1.cell? a0 = some v0 ∧ w1.cell? a1 = some v1 ∧ Below w0.heap.size w0 w1 := by
  obtain ⟨h0, h1, hB⟩ := h
  exact ⟨cell_below h0 hb, cell_below h1 hb, Below.next hB hb⟩
theorem drewn2 {w0 w : World} {a0 a1 : Addr} {v0 v1 : Value} (h : w.cell? a0 = some v0 ∧ w.cell? a1 = some v1 ∧ Below w0.heap.size w0 w) : w.drew.cell? a0 = some v0 ∧ w.drew.cell? a1 = some v1 ∧ Below w0.heap.size w0 w.drew := by
  obtain ⟨h0, h1, hB⟩ := h
  exact ⟨h0, h1, hB.drew⟩
theorem sum_wrap {s t : Int} (a0 : 0 ≤ s) (a1 : s ≤ 3037000499) (b0 : 0 ≤ t) (b1 : t ≤ 3037000499) : IntKind.i64.wrap (s + t) = s + t ∧ IntKind.i64.wrap (s + t + 1) = s + t + 1 :=
  ⟨IntWalk.i64_in _ ⟨by omega, by omega⟩, IntWalk.i64_in _ ⟨by omega, by omega⟩⟩
theorem side_lim (ax ay bx cy px py : Int) : -1 ≤ sideR ax ay bx cy px py ∧ sideR ax ay bx cy px py ≤ 1 := by
  unfold sideR sgn
  split
  · split
    · omega
    · split <;> omega
  · omega
theorem trim86 {w0 w : World} {a0 a1 a2 a3 a4 a5 a6 a7 : Addr} {v0 v1 v2 v3 v4 v5 v6 v7 : Value} (h : w.cell? a0 = some v0 ∧ w.cell? a1 = some v1 ∧ w.cell? a2 = some v2 ∧ w.cell? a3 = some v3 ∧ w.cell? a4 = some v4 ∧ w.cell? a5 = some v5 ∧ w.cell? a6 = some v6 ∧ w.cell? a7 = some v7 ∧ Below w0.heap.size w0 w) : w.cell? a0 = some v0 ∧ w.cell? a1 = some v1 ∧ w.cell? a2 = some v2 ∧ w.cell? a3 = some v3 ∧ w.cell? a4 = some v4 ∧ w.cell? a5 = some v5 ∧ Below w0.heap.size w0 w := by
  obtain ⟨h0, h1, h2, h3, h4, h5, h6, h7, hB⟩ := h
  exact ⟨h0, h1, h2, h3, h4, h5, hB⟩
end Go.Proofs.YthggoboljkdldabGreatDoor
namespace Go.Proofs.YthggoboljkdldabGreatDoor
open Go.ChangeShapes Go.WideShapes Go.ChangeAt Go.RowKit Pm

/-- The worlds that meet S. -/
structure Cls (S : World → Prop) where
  v : World
  h : S v
theorem wp_region_cls {P : Program} (S : World → Prop) {id : Nat} {Q : Exit → Act → World → Prop} {a : Act} {w : World} {l : List Oper} (hm : P.follows .mixedOrders = true) (hB : Region.lexB .any l.toArray = true) (hS : S w.drew)
    (h : wpQuiet P l.toArray (fun w' => ∃ p : Cls S, w' = p.v) (fun a' => ∀ w', (∃ p : Cls S, w' = p.v) → Q .normal a' w') l a) : (Code.region id l.toArray true).wp P Q a w :=
  wp_region_quiet (C := fun w' => ∃ p : Cls S, w' = p.v) hm hB ⟨⟨_, hS⟩, rfl⟩ (by simpa using h)
theorem Cls.call {S : World → Prop} (hcl : ∀ w w', S w → Below w.heap.size w w' → S w') (p : Cls S) {P : Program} {f : FuncId} {args : Array Value} {v : Value}
    (h : Calls P f args p.v fun e w' => e = .returned v ∧ Below p.v.heap.size p.v w') : Calls P f args p.v fun e w'' => e = .returned v ∧ ∃ q : Cls S, w'' = q.v :=
  h.mono fun _ w' ⟨he, hb⟩ => ⟨he, ⟨w', hcl _ _ p.h hb⟩, rfl⟩

/-! ### There is a distance, a gap -/
theorem sqrt_ex (n : Nat) : ∃ r : Nat, r * r ≤ n ∧ n < (r + 1) * (r + 1) := by
  induction n with
  | zero => exact ⟨0, by omega, by omega⟩
  | succ n ih =>
    obtain ⟨r, h1, h2⟩ := ih
    by_cases h : n + 1 < (r + 1) * (r + 1)
    · exact ⟨r, by omega, h⟩
    · refine ⟨r + 1, by omega, ?_⟩
      have e : (r + 1 + 1) * (r + 1 + 1) = (r + 1) * (r + 1) + 2 * (r + 1) + 1 := by grind
      omega
theorem root_ex {n : Int} (h0 : 0 ≤ n) (h1 : n ≤ 9223372030926249000) : ∃ r, Root n r := by
  obtain ⟨N, rfl⟩ := Int.eq_ofNat_of_zero_le h0
  obtain ⟨r, h2, h3⟩ := sqrt_ex N
  have h4 : ((r * r : Nat) : Int) ≤ N := by omega
  have h5 : (N : Int) < (((r + 1) * (r + 1) : Nat) : Int) := by omega
  simp only [Int.natCast_mul, Int.natCast_add, Int.natCast_one] at h4 h5
  refine ⟨r, by omega, ?_, fun h => by omega, fun _ => ⟨h4, h5⟩⟩
  by_cases hr : (r : Int) ≤ 3037000499
  · exact hr
  · have : (3037000500 : Int) * 3037000500 ≤ r * r := Int.mul_le_mul (by omega) (by omega) (by omega) (by omega)
    omega
theorem dist_ex (ax ay bx cy : Int) : ∃ r, DistIs ax ay bx cy r := by
  by_cases hc : (okB (ax, ay) && okB (bx, cy)) = true
  · obtain ⟨ha, hb⟩ : okB (ax, ay) = true ∧ okB (bx, cy) = true := by simpa using hc
    obtain ⟨r, hr⟩ := root_ex (sqd_nn ax ay bx cy) (Int.le_trans (sqd_bd (vd_of ha) (vd_of hb)) (by decide))
    exact ⟨r, by unfold DistIs; rw [if_pos hc]; exact hr⟩
  · exact ⟨0, by unfold DistIs; rw [if_neg hc]⟩

/-! ### Contracts with the answer named -/
theorem distance_is {ax ay bx cy D : Int} (h : DistIs ax ay bx cy D) (w : World) :
    Calls Tryz.prog 7 #[.agg #[.int .i64 ax, .int .i64 ay], .agg #[.int .i64 bx, .int .i64 cy]] w fun e w' => e = .returned (.int .i64 D) ∧ Below w.heap.size w w' :=
  (distance_any ax ay bx cy w).mono fun _ _ ⟨r, hr, he, hb⟩ => ⟨by rw [he, hr.one h], hb⟩
theorem sdistance_is {ax ay bx cy D : Int} (h : DistIs ax ay bx cy D) (w : World) :
    Calls Tryz.prog 14 #[.agg #[.int .i64 ax, .int .i64 ay], .agg #[.int .i64 bx, .int .i64 cy]] w fun e w' => e = .returned (.int .i64 D) ∧ Below w.heap.size w w' :=
  (sdistance_any ax ay bx cy w).mono fun _ _ ⟨r, hr, he, hb⟩ => ⟨by rw [he, hr.one h], hb⟩
theorem gap_is {ax ay bx cy px py g : Int} (h : GapR ax ay bx cy px py g) (w : World) :
    Calls Tryz.prog 8 #[.agg #[.int .i64 ax, .int .i64 ay], .agg #[.int .i64 bx, .int .i64 cy], .agg #[.int .i64 px, .int .i64 py]] w fun e w' => e = .returned (.int .i64 g) ∧ Below w.heap.size w w' :=
  (gap_any ax ay bx cy px py w).mono fun _ _ ⟨r, hr, he, hb⟩ => ⟨by rw [he, hr.one h], hb⟩
theorem side_is {ax ay bx cy px py s : Int} (h : sideR ax ay bx cy px py = s) (w : World) :
    Calls Tryz.prog 11 #[.agg #[.int .i64 ax, .int .i64 ay], .agg #[.int .i64 bx, .int .i64 cy], .agg #[.int .i64 px, .int .i64 py]] w fun e w' => e = .returned (.int .i64 s) ∧ Below w.heap.size w w' := by
  rw [← h]; exact sideof_any ax ay bx cy px py w
theorem svalid_is {x y : Int} {b : Bool} (h : inB 0 200000 [x, y] = b) (w : World) :
    Calls Tryz.prog 10 #[.agg #[.int .i64 x, .int .i64 y]] w fun e w' => e = .returned (.bool b) ∧ Below w.heap.size w w' := by
  rw [← h]; exact svalid_any x y w
end Go.Proofs.YthggoboljkdldabGreatDoor
namespace Go.Proofs.YthggoboljkdldabGreatDoor
open Go.ChangeShapes Go.WideShapes Go.ChangeAt Go.RowKit Pm

theorem cls6 {w0 w : World} {a0 a1 a2 a3 a4 a5 : Addr} {v0 v1 v2 v3 v4 v5 : Value} (h : w.cell? a0 = some v0 ∧ w.cell? a1 = some v1 ∧ w.cell? a2 = some v2 ∧ w.cell? a3 = some v3 ∧ w.cell? a4 = some v4 ∧ w.cell? a5 = some v5 ∧ Below w0.heap.size w0 w) : ∃ S : World → Prop, (∀ w1 w2, S w1 → Below w1.heap.size w1 w2 → S w2) ∧ S w.drew ∧ (∀ p : Cls S, p.v.cell? a0 = some v0) ∧ (∀ p : Cls S, p.v.cell? a1 = some v1) ∧ (∀ p : Cls S, p.v.cell? a2 = some v2) ∧ (∀ p : Cls S, p.v.cell? a3 = some v3) ∧ (∀ p : Cls S, p.v.cell? a4 = some v4) ∧ (∀ p : Cls S, p.v.cell? a5 = some v5) ∧ ∀ p : Cls S, Below w0.heap.size w0 p.v :=
  ⟨fun w' => w'.cell? a0 = some v0 ∧ w'.cell? a1 = some v1 ∧ w'.cell? a2 = some v2 ∧ w'.cell? a3 = some v3 ∧ w'.cell? a4 = some v4 ∧ w'.cell? a5 = some v5 ∧ Below w0.heap.size w0 w', fun _ _ h hb => keepn6 hb h, drewn6 h, fun p => p.h.1, fun p => p.h.2.1, fun p => p.h.2.2.1, fun p => p.h.2.2.2.1, fun p => p.h.2.2.2.2.1, fun p => p.h.2.2.2.2.2.1, fun p => p.h.2.2.2.2.2.2⟩

theorem near_zero {px py : Int} {ps : List (Int × Int)} (h : nearE px py ps = 0) : inB 0 200000 [px, py] = true ∧ ps.all okB = true ∧ ps.length ≤ 64 ∧ 0 < ps.length := by
  unfold nearE at h
  split at h
  · rename_i hc
    obtain ⟨h1, h2⟩ : okB (px, py) = true ∧ ps.all okB = true := by simpa using hc
    split at h
    · omega
    · split at h
      · omega
      · exact ⟨h1, h2, by omega, by omega⟩
  · omega
theorem near_le {px py Dj Dk : Int} {ps : List (Int × Int)} {R j : Nat} (hB : Best (nearF px py ps) ps.length R) (hall : ps.all okB = true) (hc : inB 0 200000 [px, py] = true) (hj : j < ps.length) (hR : R < ps.length)
    (h1 : DistIs (ps.getD j (0, 0)).1 (ps.getD j (0, 0)).2 px py Dj) (h2 : DistIs (ps.getD R (0, 0)).1 (ps.getD R (0, 0)).2 px py Dk) : Dk ≤ Dj := by
  have v1 := vd_at hall j hj
  have v2 := vd_at hall R hR
  have b := hB.2.2.1 (j : Int) (by omega) (by omega)
  unfold nearF at b
  simp only [Int.toNat_natCast] at b
  rw [sqd_comm px py, sqd_comm px py] at b
  have hc' : okB (px, py) = true := hc
  unfold DistIs at h1 h2
  rw [if_pos (by rw [hc']; simp only [Bool.and_true]; exact of_vd v1)] at h1
  rw [if_pos (by rw [hc']; simp only [Bool.and_true]; exact of_vd v2)] at h2
  exact h2.mono h1 (sqd_nn _ _ _ _) (by omega)
end Go.Proofs.YthggoboljkdldabGreatDoor
