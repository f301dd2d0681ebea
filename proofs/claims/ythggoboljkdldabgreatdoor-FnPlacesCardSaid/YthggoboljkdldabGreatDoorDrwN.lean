/- The draw of some points and of one more. -/
import Derived.Test.YthggoboljkdldabGreatDoorDrwT
import Derived.Test.YthggoboljkdldabGreatDoorAre
import Derived.LoopTactic
import Derived.OwnWalk
import Derived.Laws.OwnMore
namespace Go.Proofs.YthggoboljkdldabGreatDoor
open Go.ChangeShapes Go.WideShapes Go.ChangeAt Go.RowKit Pm

theorem Only.grown {bs : Nat} {a w w' : World} {row : Option Nat} (t : Only bs a w) (hg : w.grownBy w' row) (ho : ∀ k, row = some k → a.heap.size ≤ k) : Only bs a w' :=
  ⟨t.1.trans ⟨hg.os, hg.tape, hg.output, hg.size, fun _ h => absurd h (Nat.not_lt_zero _)⟩, fun k n hk => (hg.block k (Nat.lt_of_lt_of_le hk t.size) (fun e => by have := ho k e.symm; omega)).trans (t.2 k n hk)⟩
theorem Var2.grown {b : Nat} {x y : Value} {w w' : World} {row : Option Nat} (v : Var2 b x y w) (hg : w.grownBy w' row) (n : some b ≠ row) : Var2 b x y w' :=
  ⟨hg.cell v.c0 n, hg.cell v.c1 n, (World.frozen?_of_block (hg.block b v.lt n)).trans v.z0, (World.frozen?_of_block (hg.block b v.lt n)).trans v.z1⟩
theorem Src.grown {w0 w w' : World} {bs : Nat} {sv : Value} {zs : List Int} {k : Nat} {row : Option Nat} (h : Src w0 bs sv zs k w) (hg : w.grownBy w' row) (n : some bs ≠ row) (ho : ∀ k, row = some k → w0.heap.size ≤ k) : Src w0 bs sv zs k w' := by
  have hl := h.lt
  obtain ⟨j, seed, hj, c0, c1, c2, z1, z2⟩ := h.at_
  exact ⟨h.arg, h.bytes, h.len, h.own, h.bel.grown hg h.bel.size ho, j, seed, hj, hg.cell c0 n, hg.cell c1 n, hg.cell c2 n, (World.frozen?_of_block (hg.block bs hl n)).trans z1, (World.frozen?_of_block (hg.block bs hl n)).trans z2⟩
theorem own_only {bs B s : Nat} {w w' : World} {T : TypeId} {v : Value} {n : Nat} {xs : List Value} (h : w.ownsRow B T s v n xs) (hB : bs < B) (t : Only bs w w') : w'.ownsRow B T s v n xs := by
  refine ⟨h.1, ?_⟩
  rcases h.2 with h2 | ⟨g, cap, cur, h1, h3, h4, h5⟩
  · exact .inl h2
  · refine .inr ⟨g, cap, cur, h1, h3, ?_, h5⟩
    have hlt : g < w.heap.size := by
      rcases Nat.lt_or_ge g w.heap.size with h' | h'
      · exact h'
      · rw [Array.getElem?_eq_none h'] at h4; cases h4
    rw [t.2 g (by omega) hlt]; exact h4
theorem own_bel {w w' : World} {B s : Nat} {T : TypeId} {v : Value} {n : Nat} {xs : List Value} (h : w.ownsRow B T s v n xs) (hb : Below w.heap.size w w') : w'.ownsRow B T s v n xs := by
  refine ⟨h.1, ?_⟩
  rcases h.2 with h2 | ⟨g, cap, cur, h1, h3, h4, h5⟩
  · exact .inl h2
  · refine .inr ⟨g, cap, cur, h1, h3, ?_, h5⟩
    have hlt : g < w.heap.size := by
      rcases Nat.lt_or_ge g w.heap.size with h' | h'
      · exact h'
      · rw [Array.getElem?_eq_none h'] at h4; cases h4
    rw [hb.block g hlt]; exact h4

theorem infoPt2 : (Tryz.prog.info? 25).map (fun i => (i.zero, i.size, i.bytes)) = some (some (.agg #[.int .i64 0, .int .i64 0]), 2, 16) := by kernel_rfl
theorem info_parts2 {t : TypeId} {z : Value} {s b : Nat} (h : (Tryz.prog.info? t).map (fun i => (i.zero, i.size, i.bytes)) = some (some z, s, b)) :
    ∃ i, Tryz.prog.info? t = some i ∧ i.zero = some z ∧ i.size = s ∧ i.bytes = b := by
  cases hi : Tryz.prog.info? t with
  | none => rw [hi] at h; cases h
  | some i => rw [hi] at h; simp at h; exact ⟨i, rfl, h.1, h.2.1, h.2.2⟩

/-- The cells of a list of points. -/
def cellsV (ps : List (Int × Int)) : List Value := ps.flatMap fun p => [.int .i64 p.1, .int .i64 p.2]
theorem cellsV_len (ps : List (Int × Int)) : (cellsV ps).length = ps.length * 2 := by
  induction ps with
  | nil => rfl
  | cons p ps ih => simp only [cellsV, List.flatMap_cons, List.length_append, List.length_cons, List.length_nil] at *; omega
theorem cellsV_at : ∀ (ps : List (Int × Int)) (i : Nat), i < ps.length → (cellsV ps)[i * 2]? = some (.int .i64 (ps.getD i (0, 0)).1) ∧ (cellsV ps)[i * 2 + 1]? = some (.int .i64 (ps.getD i (0, 0)).2)
  | [], _, h => by simp at h
  | p :: ps, 0, _ => ⟨rfl, rfl⟩
  | p :: ps, i + 1, h => by
    have := cellsV_at ps i (by simpa using h)
    rw [show (i + 1) * 2 = i * 2 + 2 by omega]
    simpa [cellsV] using this
theorem cellsV_snoc (ps : List (Int × Int)) (x y : Int) : cellsV ps ++ [.int .i64 x, .int .i64 y] = cellsV (ps ++ [(x, y)]) := by simp [cellsV]

/-- Points in a row of the call's own. -/
def PtsIn (lo : Nat) (w : World) (v : Value) (ps : List (Int × Int)) : Prop :=
  ∃ a c, v = .slice a ps.length c ∧ ((ps = [] ∧ a = none ∧ c = 0) ∨ ∃ b, lo ≤ b ∧ a = some ⟨b, 0, none⟩ ∧ ps.length ≤ 1000 ∧ ∀ i, i < ps.length →
    w.cell? ⟨b, i * 2, none⟩ = some (.int .i64 (ps.getD i (0, 0)).1) ∧ w.cell? ⟨b, i * 2 + 1, none⟩ = some (.int .i64 (ps.getD i (0, 0)).2))
theorem PtsIn.of_own {lo : Nat} {w : World} {v : Value} {ps : List (Int × Int)} (h : w.ownsRow lo 25 2 v ps.length (cellsV ps)) (hl : ps.length ≤ 1000) : PtsIn lo w v ps := by
  have h0 := h
  rcases h.2 with ⟨h1, h2⟩ | ⟨g, cap, cur, h1, h3, _⟩
  · have : ps = [] := List.length_eq_zero_iff.1 (by simpa using h2)
    subst this
    exact ⟨none, 0, h1, .inl ⟨rfl, rfl, rfl⟩⟩
  · subst h1
    refine ⟨_, _, rfl, .inr ⟨g, h3, rfl, hl, fun i hi => ?_⟩⟩
    obtain ⟨e0, e1⟩ := cellsV_at ps i hi
    have hlen := cellsV_len ps
    exact ⟨(h0.cellAt (i * 2) (by omega)).trans e0, (h0.cellAt (i * 2 + 1) (by omega)).trans e1⟩
theorem PtsIn.only {lo bs : Nat} {w w' : World} {v : Value} {ps : List (Int × Int)} (h : PtsIn lo w v ps) (hb : bs < lo) (t : Only bs w w') : PtsIn lo w' v ps := by
  obtain ⟨a, c, e, h⟩ := h
  refine ⟨a, c, e, h.imp id fun ⟨b, h1, h2, h3, h4⟩ => ⟨b, h1, h2, h3, fun i hi => ⟨cell_only (h4 i hi).1 (by simp only; omega) t, cell_only (h4 i hi).2 (by simp only; omega) t⟩⟩⟩
theorem PtsIn.put {lo g j : Nat} {w : World} {v u : Value} {ps : List (Int × Int)} (h : PtsIn lo w v ps) (hb : g < lo) : PtsIn lo (w.setCell ⟨g, j, none⟩ u) v ps := by
  obtain ⟨a, c, e, h⟩ := h
  refine ⟨a, c, e, h.imp id fun ⟨b, h1, h2, h3, h4⟩ => ⟨b, h1, h2, h3, fun i hi => ⟨cell_apart (by simp only; omega) (h4 i hi).1, cell_apart (by simp only; omega) (h4 i hi).2⟩⟩⟩
theorem PtsIn.are {lo : Nat} {w : World} {v : Value} {ps : List (Int × Int)} (h : PtsIn lo w v ps) : PtsAre w v ps := by
  obtain ⟨a, c, rfl, ⟨rfl, rfl, rfl⟩ | ⟨b, _, rfl, h3, h4⟩⟩ := h
  · exact .inl ⟨rfl, rfl⟩
  · exact .inr ⟨b, 0, c, rfl, by omega, fun i hi => by simpa using h4 i hi⟩

def NearDrawn (w : World) (e : Ending) (w' : World) : Prop := ∃ (a : Option Addr) (c : Nat) (ps : List (Int × Int)) (px py : Int), ps.length ≤ 65 ∧ (-1 ≤ px ∧ px ≤ 200001) ∧ (-1 ≤ py ∧ py ≤ 200001) ∧ e = .returned (.tuple #[.slice a ps.length c, .agg #[.int .i64 px, .int .i64 py]]) ∧ PtsAre w' (.slice a ps.length c) ps ∧ Below w.heap.size w w'

theorem app_two (wr : World) (x y : Value) (T : TypeId) : ∀ j u, [x, y][j]? = some u → (wr.alloc (.cells #[x, y] T)).cell? ((⟨wr.heap.size, 0, none⟩ : Addr).add j) = some u := by
  intro j u hj
  match j, hj with
  | 0, hj => simp at hj; subst hj; simp [Addr.add]
  | 1, hj => simp at hj; subst hj; simp [Addr.add]

theorem made_cells (K : Nat) : (madeCells #[Value.int .i64 0, Value.int .i64 0] (K * 2)).toList = cellsV (List.replicate K (0, 0)) := by
  have h1 : (madeCells #[Value.int .i64 0, Value.int .i64 0] (K * 2)).toList = List.replicate (K * 2) (Value.int .i64 0) := by
    refine List.eq_replicate_iff.2 ⟨by simp [madeCells], fun b hb => ?_⟩
    simp [madeCells] at hb
    obtain ⟨j, _, rfl⟩ := hb
    rcases (show j % 2 = 0 ∨ j % 2 = 1 by omega) with h | h <;> rw [h] <;> rfl
  have h2 : cellsV (List.replicate K (0, 0)) = List.replicate (K * 2) (Value.int .i64 0) := by
    refine List.eq_replicate_iff.2 ⟨by rw [cellsV_len, List.length_replicate], fun b hb => ?_⟩
    simp [cellsV] at hb
    obtain ⟨p, q, ⟨_, h1, h2⟩, h | h⟩ := hb <;> simp [h, h1, h2]
  rw [h1, h2]

set_option maxRecDepth 100000 in
set_option maxHeartbeats 2000000 in
theorem draw_nearest (w : World) (sv : Value) (zs : List Int) (h : ArgIn .u8 w sv zs) (hz : BytesAre zs) (hl : zs.length ≤ 1048576) :
    Calls Tryz.prog 12 #[sv] w (NearDrawn w) := by
  have hA := Lib.hid h
  clear h
  obtain ⟨W, hW⟩ : ∃ W, w.alloc (.cells #[.int .i64 0, .int .i64 0] 25) = W := ⟨_, rfl⟩
  have hWs : W.heap.size = w.heap.size + 1 := by rw [← hW]; simp
  have HW := Lib.hid (show Below w.heap.size w W by rw [← hW]; exact ((Below.refl _ _).alloc (by first | (simp; done) | (simp; omega)) _))
  have R0 := Lib.hid (show Var2 (w.heap.size) (.int .i64 0) (.int .i64 0) W by rw [← hW]; have := Var2.new w (.int .i64 0) (.int .i64 0) 25; simpa using this)
  have HWE := Lib.hid hW
  clear hW
  go_enter Tryz.func12, Tryz.ntmps12
  go_wp2_with (go_at_call 17; rw [HWE.out]; refine (from_at W (w.heap.size + 1) hWs sv zs (hA.out.below HW.out) hz hl).mono ?_; rintro e w1 ⟨rfl, hS1, hb1⟩; refine Hid.out ?_)
  refine Lib.hid ?_
  have S1 := Lib.hid hS1
  have lS1 := hS1.lt
  have R1 := Lib.hid (R0.out.below hb1)
  have lR1 := R1.out.lt
  have HB1 := Lib.hid (HW.out.trans (hb1.mono HW.out.size))
  clear hS1 hb1
  go_wp2_with (go_at_call 19; refine (pick_draw _ _ _ _ _ _ 8 (by omega) (by omega) (by omega) (S1.out.alloc _)).mono ?_; rintro e w2 ⟨_, ⟨m, m0, m1, rfl⟩, rfl, hS2, ho2⟩; refine Hid.out ?_)
  refine Lib.hid ?_
  have O2 := Lib.hid (((Only.refl (w.heap.size + 1) w1).alloc _).trans ho2)
  have R2 := Lib.hid ((R1.out.alloc _).only (by omega) ho2)
  have P2 := Lib.hid (own_only (World.ownsRow_lit (size := 2) (e := 25) (base := w1.heap.size) w1 #[] 0 (Nat.le_refl _) (by unfold maxLen; omega) rfl) lS1 ho2)
  have S2 := Lib.hid hS2
  have lR2 := R2.out.lt
  have lS2 := hS2.lt
  obtain ⟨i0, hi, hz0, hz1, hz2⟩ := info_parts2 infoPt2
  obtain ⟨M, rfl⟩ := Int.eq_ofNat_of_zero_le m0
  clear hS2 ho2 m0
  go_wp2_with (fail)
  go_loopw [5, 6] (fun l i wr => ∃ (m q : Nat) (ps : List (Int × Int)), i = .int .i64 m ∧ ps.length + m ≤ 7 ∧ q + 18 * m ≤ 200 ∧ wr.ownsRow w1.heap.size 25 2 l ps.length (cellsV ps) ∧ Src W (w.heap.size + 1) sv zs q wr ∧ Var2 w.heap.size (.int .i64 0) (.int .i64 0) wr ∧ Only (w.heap.size + 1) w1 wr) (fun _ i _ => (intOf i).toNat)
  case atStart => exact ⟨M, _, [], rfl, by simp; omega, by omega, P2.out, S2.out, R2.out, O2.out⟩
  case round =>
    obtain ⟨m, q, ps, rfl, hm, hq, hP, hS, hR, hO⟩ := hrel
    have HP := Lib.hid hP
    have HS := Lib.hid hS
    have HR := Lib.hid hR
    have HO := Lib.hid hO
    have lR := hR.lt
    have lS := hS.lt
    have lO := hO.size
    have hW0 := hS.bel.size
    clear hP hS hR hO
    by_cases hlt : 0 < m
    · go_wp2_with (go_at_call 18; refine (bent_draw _ _ _ _ _ _ (by omega) HS.out).mono ?_; rintro e w3 ⟨_, ⟨x, y, x0, x1, y0, y1, rfl⟩, rfl, hS3, ho3⟩; refine Hid.out ?_)
      refine Lib.hid ?_
      have S3 := Lib.hid hS3
      have R3 := Lib.hid (HR.out.only (by omega) ho3)
      have P3 := own_only HP.out (by omega) ho3
      have O3 := Lib.hid (HO.out.trans ho3)
      have hbk : ∀ k, Value.ownBlock u5 = some k → w1.heap.size ≤ k := fun k hk => (P3.lt k hk).1
      have HBK := Lib.hid hbk
      have lw3 := ho3.size
      clear hS3 ho3 hbk
      go_wp2_with (at_builtin; refine wpList_append_own _ rfl _ _ 35 rfl w1.heap.size 25 i0 (.agg #[.int .i64 0, .int .i64 0]) 2 16 Tryz.underlying35 hi hz0 hz1 hz2 rfl (by decide) _ _ _ rfl (P3.alloc _) ⟨w3.heap.size, 0, none⟩ 1 1 [.int .i64 x, .int .i64 y] rfl rfl (app_two _ _ _ _) (by intro u hu; simp at hu; rcases hu with rfl | rfl <;> rfl) (by unfold maxLen; omega) (by omega) (by simp; omega) ?_)
      intro v4 w4 hown hg _
      rw [cellsV_snoc] at hown
      have P4 := Lib.hid hown
      have S4 := Lib.hid ((S3.out.alloc _).grown hg (by intro e; have := HBK.out _ e.symm; omega) (fun k hk => by have := HBK.out k hk; omega))
      have R4 := Lib.hid ((R3.out.alloc _).grown hg (by intro e; have := HBK.out _ e.symm; omega))
      have O4 := Lib.hid ((O3.out.alloc _).grown hg HBK.out)
      clear hown hg P3
      go_wp2_with (fail)
      go_roundw
      case rel => exact ⟨m - 1, q + 18, ps ++ [(x, y)], ret_v (by omega), by simp; omega, by omega, by simpa using P4.out, S4.out, R4.out, O4.out⟩
      case measure => simp [intOf]; omega
    · obtain rfl : m = 0 := by omega
      go_wp2_with (go_at_call 33; refine (one_draw _ _ _ _ _ _ 20 (by omega) (by omega) (by omega) HS.out).mono ?_; rintro e w5 ⟨_, ⟨u, rfl⟩, rfl, hS5, ho5⟩; refine Hid.out ?_)
      refine Lib.hid ?_
      have S5 := Lib.hid hS5
      have R5 := Lib.hid (HR.out.only (by omega) ho5)
      have P5 := Lib.hid (own_only HP.out (by omega) ho5)
      have O5 := Lib.hid (HO.out.trans ho5)
      have lS5 := hS5.lt
      have lR5 := R5.out.lt
      have lO5 := O5.out.size
      clear hS5 ho5
      cases u
      · have Q5 := Lib.hid (PtsIn.of_own P5.out (by omega))
        have hlen : ps.length ≤ 65 := by omega
        obtain ⟨a, c, hv, _⟩ := Q5.out
        subst hv
        go_wp2_with (go_at_call 18; refine (bent_draw _ _ _ _ _ _ (by omega) S5.out).mono ?_; rintro e w8 ⟨_, ⟨px, py, p0, p1, p2, p3, rfl⟩, rfl, hS8, ho8⟩; refine Hid.out ?_)
        refine Lib.hid ?_
        have R8 := R5.out.only (by omega) ho8
        have Q8 := Lib.hid (Q5.out.only (by omega) ho8)
        have lR8 := R8.lt
        obtain ⟨r0, r1, r2, r3⟩ := R8
        have ac : Below w.heap.size w w8 := Only.below HB1.out (O5.out.trans ho8) (by omega) (Nat.le_refl _)
        clear hS8 ho8
        go_wp2_with (fail)
        refine bodyPost_ret (v := .tuple #[.slice a ps.length c, .agg #[.int .i64 px, .int .i64 py]]) (by simp [results, Tryz.results12, go_sem, *]) rfl ?_
        exact ⟨a, c, ps, px, py, hlen, ⟨p0, p1⟩, ⟨p2, p3⟩, rfl, ((Q8.out.put (by omega)).put (by omega)).are, by go_grown⟩
      · go_wp2_with (go_at_call 20; refine (among_draw _ _ _ _ _ _ _ _ [64, 65] (by omega) (by simp) (by simp) (by omega) (lit_at _ _ _ _ (by simp)) (S5.out.alloc _)).mono ?_; rintro e w6 ⟨_, ⟨n, hn, rfl⟩, rfl, hS6, ho6⟩; refine Hid.out ?_)
        refine Lib.hid ?_
        have S6 := Lib.hid hS6
        have R6 := Lib.hid ((R5.out.alloc _).only (by omega) ho6)
        have O6 := Lib.hid ((O5.out.alloc _).trans ho6)
        have lS6 := hS6.lt
        have lO6 := O6.out.size
        clear hS6 ho6 lS5 lR5 lO5 P5
        obtain ⟨K, hK, K1⟩ : ∃ K : Nat, n = (K : Int) ∧ K ≤ 65 := by simp at hn; rcases hn with rfl | rfl; exact ⟨64, rfl, by omega⟩; exact ⟨65, rfl, by omega⟩
        subst hK
        clear hn
        go_wp2_with (at_make; refine wpList_make_full _ rfl _ _ 35 rfl w1.heap.size 25 i0 (.agg #[.int .i64 0, .int .i64 0]) 2 Tryz.underlying35 hi hz0 hz1 _ _ _ _ K rfl rfl rfl rfl (by rw [hz2]; omega) (by unfold maxLen; omega) (by omega) ?_)
        intro w7 hown hg
        have hb7 : Below w6.heap.size w6 w7 := (Below.refl _ _).grown hg (Nat.le_refl _) (fun k hk => by cases hk)
        obtain ⟨qs, hqs, hQ⟩ : ∃ qs : List (Int × Int), qs.length = K ∧ PtsIn w1.heap.size w7 (.slice (some ⟨w6.heap.size, 0, none⟩) K K) qs := by
          rw [made_cells K] at hown
          refine ⟨List.replicate K (0, 0), List.length_replicate, PtsIn.of_own ?_ (by simp; omega)⟩
          rw [List.length_replicate]; exact hown
        clear hown
        subst hqs
        have S5 := Lib.hid (S6.out.below hb7)
        have R5 := Lib.hid (R6.out.below hb7)
        have O5 := Lib.hid (O6.out.trans (Only.of_below hb7))
        have lS5 := S5.out.lt
        have lR5 := R5.out.lt
        have lO5 := O5.out.size
        have Q5 := Lib.hid hQ
        clear hg hb7 hQ S6 R6 O6
        go_wp2_with (go_at_call 18; refine (bent_draw _ _ _ _ _ _ (by omega) S5.out).mono ?_; rintro e w8 ⟨_, ⟨px, py, p0, p1, p2, p3, rfl⟩, rfl, hS8, ho8⟩; refine Hid.out ?_)
        refine Lib.hid ?_
        have R8 := R5.out.only (by omega) ho8
        have Q8 := Lib.hid (Q5.out.only (by omega) ho8)
        have lR8 := R8.lt
        obtain ⟨r0, r1, r2, r3⟩ := R8
        have ac : Below w.heap.size w w8 := Only.below HB1.out (O5.out.trans ho8) (by omega) (Nat.le_refl _)
        clear hS8 ho8
        go_wp2_with (fail)
        refine bodyPost_ret (v := .tuple #[.slice (some ⟨w6.heap.size, 0, none⟩) qs.length qs.length, .agg #[.int .i64 px, .int .i64 py]]) (by simp [results, Tryz.results12, go_sem, *]) rfl ?_
        exact ⟨_, _, qs, px, py, K1, ⟨p0, p1⟩, ⟨p2, p3⟩, rfl, ((Q8.out.put (by omega)).put (by omega)).are, by go_grown⟩
end Go.Proofs.YthggoboljkdldabGreatDoor
