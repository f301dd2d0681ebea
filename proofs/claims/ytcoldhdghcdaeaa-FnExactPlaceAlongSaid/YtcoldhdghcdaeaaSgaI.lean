/- The segment at a distance: the program's. -/
import Derived.Test.YtcoldhdghcdaeaaLenI
namespace Go.Proofs.Ytcoldhdghcdaeaa
open Go.ChangeShapes Go.WideShapes Go.ChangeAt Go.RowKit Go.Shelf Pm
attribute [local go_sem] Oper.semAt_some

theorem BlkAt.keep {X Y : World} {row : Option Nat} {B : Nat} {cs : Array Value} {t : TypeId} (h : BlkAt X B cs t) (hg : X.grownBy Y row) (hr : ∀ r, row = some r → ∃ o : Obj, X.heap[r]? = some o ∧ o.isCells = false) : BlkAt Y B cs t :=
  BlkAt.own B t (fun (_ : Unit) => cs) () X Y row h hg hr
theorem BlkAt.alloc {W : World} {B : Nat} {cs : Array Value} {t : TypeId} (h : BlkAt W B cs t) (o : Obj) : BlkAt (W.alloc o) B cs t := (Below.heap_alloc _ _ _ h.lt).trans h
theorem BlkAt.below {W W' : World} {B : Nat} {cs : Array Value} {t : TypeId} (h : BlkAt W B cs t) (hb : Below W.heap.size W W') : BlkAt W' B cs t := (hb.block B h.lt).trans h
theorem BlkAt.frozen {W : World} {B : Nat} {cs : Array Value} {t : TypeId} (h : BlkAt W B cs t) (j : Nat) : W.frozen? ⟨B, j, none⟩ = false := by
  unfold BlkAt at h
  simp [World.frozen?, h]
theorem BlkAt.set {W : World} {B : Nat} {cs : Array Value} {t : TypeId} (h : BlkAt W B cs t) (j : Nat) (v : Value) : BlkAt (W.setCell ⟨B, j, none⟩ v) B (cs.setIfInBounds j v) t := by
  obtain ⟨hlt, hk⟩ := Array.getElem?_eq_some_iff.1 h
  show (W.heap.modify B _)[B]? = _
  rw [Array.getElem?_eq_getElem (by rw [Array.size_modify]; exact hlt), Array.getElem_modify_self, hk]
  rfl
theorem BlkAt.other {W : World} {B B' : Nat} {cs : Array Value} {t : TypeId} (h : BlkAt W B cs t) (hne : B ≠ B') (j : Nat) (v : Value) : BlkAt (W.setCell ⟨B', j, none⟩ v) B cs t :=
  (Below.heap_setCell _ _ _ _ (fun e => hne e)).trans h
section
variable {W : World} {B : Nat} {x0 x1 x2 x3 x4 x5 : Value}
theorem six_keeps : KeepsOthers W ((((((W.setCell ⟨B, 0, none⟩ x0).setCell ⟨B, 1, none⟩ x1).setCell ⟨B, 2, none⟩ x2).setCell ⟨B, 3, none⟩ x3).setCell ⟨B, 4, none⟩ x4).setCell ⟨B, 5, none⟩ x5) :=
  (((((KeepsOthers.setCell _ _ _).trans (KeepsOthers.setCell _ _ _)).trans (KeepsOthers.setCell _ _ _)).trans (KeepsOthers.setCell _ _ _)).trans (KeepsOthers.setCell _ _ _)).trans (KeepsOthers.setCell _ _ _)
theorem six_keepc : KeepC B W ((((((W.setCell ⟨B, 0, none⟩ x0).setCell ⟨B, 1, none⟩ x1).setCell ⟨B, 2, none⟩ x2).setCell ⟨B, 3, none⟩ x3).setCell ⟨B, 4, none⟩ x4).setCell ⟨B, 5, none⟩ x5) :=
  (((((KeepC.put _ _ _).t (KeepC.put _ _ _)).t (KeepC.put _ _ _)).t (KeepC.put _ _ _)).t (KeepC.put _ _ _)).t (KeepC.put _ _ _)
theorem six_below {n : Nat} (h : n ≤ B) {w0 : World} (hb : Below n w0 W) : Below n w0 ((((((W.setCell ⟨B, 0, none⟩ x0).setCell ⟨B, 1, none⟩ x1).setCell ⟨B, 2, none⟩ x2).setCell ⟨B, 3, none⟩ x3).setCell ⟨B, 4, none⟩ x4).setCell ⟨B, 5, none⟩ x5) :=
  (((((hb.setCell (p := ⟨B, 0, none⟩) h _).setCell (p := ⟨B, 1, none⟩) h _).setCell (p := ⟨B, 2, none⟩) h _).setCell (p := ⟨B, 3, none⟩) h _).setCell (p := ⟨B, 4, none⟩) h _).setCell (p := ⟨B, 5, none⟩) h _
theorem BlkAt.six {a b c e x y : Value} {t : TypeId} (h : BlkAt W B #[a, b, c, e, x, y] t) : BlkAt ((((((W.setCell ⟨B, 0, none⟩ x0).setCell ⟨B, 1, none⟩ x1).setCell ⟨B, 2, none⟩ x2).setCell ⟨B, 3, none⟩ x3).setCell ⟨B, 4, none⟩ x4).setCell ⟨B, 5, none⟩ x5) B #[x0, x1, x2, x3, x4, x5] t :=
  (((((h.set 0 _).set 1 _).set 2 _).set 3 _).set 4 _).set 5 _
theorem BlkAt.six_other {B' : Nat} {cs : Array Value} {t : TypeId} (h : BlkAt W B' cs t) (hne : B' ≠ B) : BlkAt ((((((W.setCell ⟨B, 0, none⟩ x0).setCell ⟨B, 1, none⟩ x1).setCell ⟨B, 2, none⟩ x2).setCell ⟨B, 3, none⟩ x3).setCell ⟨B, 4, none⟩ x4).setCell ⟨B, 5, none⟩ x5) B' cs t :=
  (((((h.other hne _ _).other hne _ _).other hne _ _).other hne _ _).other hne _ _).other hne _ _
end
/-- The six cells of a segment. -/
noncomputable def segC (ps : Pts) (i : Nat) : Array Value := #[.int .i64 (ps.getD i (0, 0)).1, .int .i64 (ps.getD i (0, 0)).2, .int .i64 (ps.getD (i + 1) (0, 0)).1, .int .i64 (ps.getD (i + 1) (0, 0)).2, .int .i64 (begV ps i), .int .i64 (dL ps i)]
/-- The first segment that reaches a distance. -/
def SegIx (ps : Pts) (d : Int) (i : Nat) : Prop := i + 1 < ps.length ∧ d ≤ begV ps (i + 1) ∧ ∀ j, j < i → begV ps (j + 1) < d
theorem SegIx.one {ps : Pts} {d : Int} {i j : Nat} (h : SegIx ps d i) (k : SegIx ps d j) : i = j := by
  rcases Nat.lt_trichotomy i j with c | c | c
  · have := k.2.2 i c
    have := h.2.1
    omega
  · exact c
  · have := h.2.2 j c
    have := k.2.1
    omega

set_option maxRecDepth 100000 in
set_option maxHeartbeats 2000000 in
theorem segat_in (n : Nat) (hn : 3 ≤ n) (bb off cap : Nat) (ps : Pts) (h2 : 2 ≤ ps.length) (h12 : ps.length ≤ 12) (hcap : ps.length ≤ cap) (s : ByteArray) (z : Int) (d : Int) (hd : d ≤ begV ps (ps.length - 1)) (w : World)
    (hc : ∀ i, i < ps.length → w.cell? ⟨bb, off + i * 2, none⟩ = some (.int .i64 (ps.getD i (0, 0)).1) ∧ w.cell? ⟨bb, off + i * 2 + 1, none⟩ = some (.int .i64 (ps.getD i (0, 0)).2)) :
    CallsIn Fence.wide n Try.prog 52 #[.agg #[.string s, .slice (some ⟨bb, off, none⟩) ps.length cap, .int .i64 z], .int .i64 d] w fun e w' => ∃ i, SegIx ps d i ∧ e = .returned (segV ps i) ∧ Below w.heap.size w w' := by
  have h1 : 1 ≤ n := by omega
  refine callsIn_of_wp_marks Try.func52 rfl trivial ?_ rfl
  simp only [Try.ntmps52, List.size_toArray, List.length_cons, List.length_nil, Nat.reduceAdd, Nat.reduceSub, Array.replicate_succ, Array.replicate_zero, List.push_toArray, List.append_toArray, List.nil_append, List.cons_append]
  gi_wp2_with (refine ⟨trivial, ?_⟩; gi_at_call 82; refine (callsIn_wide.2 (segs_any _ _ _ _ _ _)).mono ?_; rintro e w' ⟨rfl, rfl⟩)
  have hbb : bb < w.heap.size := seg_lt (hc 0 (by omega)).1
  obtain ⟨W0, hW0⟩ : ∃ W0, W0 = (((((w.alloc (.cells #[.string s, .slice (some ⟨bb, off, none⟩) ps.length cap, .int .i64 z] 29)).alloc (.cells #[.int .i64 d] 2)).alloc (.cells #[.int .i64 0, .int .i64 0, .int .i64 0, .int .i64 0, .int .i64 0, .int .i64 0] 73)).alloc (.cells #[.int .i64 0, .int .i64 0, .int .i64 0, .int .i64 0, .int .i64 0, .int .i64 0] 73)).alloc (.cells #[.string s, .slice (some ⟨bb, off, none⟩) ps.length cap, .int .i64 z] 29)) := ⟨_, rfl⟩
  have bD : BlkAt W0 (w.heap.size + 1) #[.int .i64 d] 2 := by
    subst hW0
    have h := BlkAt.new (w.alloc (.cells #[.string s, .slice (some ⟨bb, off, none⟩) ps.length cap, .int .i64 z] 29)) #[.int .i64 d] 2
    rw [World.size_alloc] at h
    exact ((h.alloc _).alloc _).alloc _
  have bR : BlkAt W0 (w.heap.size + 1 + 1) #[.int .i64 0, .int .i64 0, .int .i64 0, .int .i64 0, .int .i64 0, .int .i64 0] 73 := by
    subst hW0
    have h := BlkAt.new ((w.alloc (.cells #[.string s, .slice (some ⟨bb, off, none⟩) ps.length cap, .int .i64 z] 29)).alloc (.cells #[.int .i64 d] 2)) #[.int .i64 0, .int .i64 0, .int .i64 0, .int .i64 0, .int .i64 0, .int .i64 0] 73
    rw [World.size_alloc, World.size_alloc] at h
    exact (h.alloc _).alloc _
  have bA : BlkAt W0 (w.heap.size + 1 + 1 + 1) #[.int .i64 0, .int .i64 0, .int .i64 0, .int .i64 0, .int .i64 0, .int .i64 0] 73 := by
    subst hW0
    have h := BlkAt.new (((w.alloc (.cells #[.string s, .slice (some ⟨bb, off, none⟩) ps.length cap, .int .i64 z] 29)).alloc (.cells #[.int .i64 d] 2)).alloc (.cells #[.int .i64 0, .int .i64 0, .int .i64 0, .int .i64 0, .int .i64 0, .int .i64 0] 73)) #[.int .i64 0, .int .i64 0, .int .i64 0, .int .i64 0, .int .i64 0, .int .i64 0] 73
    rw [World.size_alloc, World.size_alloc, World.size_alloc] at h
    exact h.alloc _
  have hB0 : Below w.heap.size w W0 := by subst hW0; go_grown
  have hsz : W0.heap.size = w.heap.size + 5 := by subst hW0; simp
  have hBn : ChnAt W0 (w.heap.size + 1 + 1 + 1 + 1) s (.slice (some ⟨bb, off, none⟩) ps.length cap) z := by subst hW0; exact ChnAt.new _ _ _ _ (by simp)
  rw [← hW0]
  clear hW0
  refine wpIn_rangeFunc_ownH rfl h1 (gf := 103) (lb := #[.pointer (some ⟨w.heap.size + 1 + 1 + 1 + 1, 0, none⟩)]) rfl trivial (enters_of Try.func103 (by kernel_rfl) rfl)
    (segs_stops (n - 1) (by omega) (w.heap.size + 1 + 1 + 1 + 1) (w.heap.size + 1 + 1 + 1) bb off cap ps h2 h12 hcap (by omega) (by omega) s z W0 (by omega) hBn (fun i hi => ⟨cell_below (hc i hi).1 hB0, cell_below (hc i hi).2 hB0⟩)) KeepC.t (fun W l o o' _ h ho _ => KeepC.b W l o o' h ho) (Below.refl _ _) (fun _ => rfl)
    (fun pre W => (∃ a b c e x y, BlkAt W (w.heap.size + 1 + 1 + 1) #[.int .i64 a, .int .i64 b, .int .i64 c, .int .i64 e, .int .i64 x, .int .i64 y] 73) ∧ (BlkAt W (w.heap.size + 1) #[.int .i64 d] 2 ∧ BlkAt W (w.heap.size + 1 + 1) #[.int .i64 0, .int .i64 0, .int .i64 0, .int .i64 0, .int .i64 0, .int .i64 0] 73) ∧ (∀ i, i ∈ pre → wrap64 (begV ps i + dL ps i) < d) ∧ Below w.heap.size w W)
    (fun c pre W => c = .exit 0 ∧ ∃ pre' x, pre = pre' ++ [x] ∧ BlkAt W (w.heap.size + 1 + 1 + 1) (segC ps x) 73 ∧ BlkAt W (w.heap.size + 1 + 1) #[.int .i64 0, .int .i64 0, .int .i64 0, .int .i64 0, .int .i64 0, .int .i64 0] 73 ∧ d ≤ wrap64 (begV ps x + dL ps x) ∧ (∀ i, i ∈ pre' → wrap64 (begV ps i + dL ps i) < d) ∧ Below w.heap.size w W)
    (fun st X Y row hs hg hr => by
      obtain ⟨⟨a, b, c, e, x, y, h1⟩, ⟨h2, h3⟩, h4, h5⟩ := hs
      exact ⟨⟨a, b, c, e, x, y, h1.keep hg (fun r e => (hr r e).2)⟩, ⟨h2.keep hg (fun r e => (hr r e).2), h3.keep hg (fun r e => (hr r e).2)⟩, h4, (ownFrom_below (β := Unit) (B := W0.heap.size) (Nat.le_refl _) (by omega)) () X Y row h5 hg hr⟩)
    (fun c st X Y row hs hg hr => by
      obtain ⟨h0, p, x, h1, h2, h3, h4, h5, h6⟩ := hs
      exact ⟨h0, p, x, h1, h2.keep hg (fun r e => (hr r e).2), h3.keep hg (fun r e => (hr r e).2), h4, h5, (ownFrom_below (β := Unit) (B := W0.heap.size) (Nat.le_refl _) (by omega)) () X Y row h6 hg hr⟩)
    ⟨⟨0, 0, 0, 0, 0, 0, bA⟩, ⟨bD, bR⟩, fun i hi => absurd hi (by simp), hB0⟩
    (fun x a' W => BlkAt W (w.heap.size + 1 + 1 + 1) (segC ps x) 73 ∧
      a' = { tmps := #[.agg #[.string s, .slice (some ⟨bb, off, none⟩) ps.length cap, .int .i64 z], .int .i64 d, .pointer (some ⟨w.heap.size, 0, none⟩), .pointer (some ⟨w.heap.size + 1, 0, none⟩), .pointer (some ⟨w.heap.size + 1 + 1, 0, none⟩), .pointer (some ⟨w.heap.size + 1 + 1 + 1, 0, none⟩), .agg #[.string s, .slice (some ⟨bb, off, none⟩) ps.length cap, .int .i64 z], .func (.func 103) #[] #[.pointer (some ⟨w.heap.size + 1 + 1 + 1 + 1, 0, none⟩)], segV ps x, undef, undef, undef, undef, undef], defers := [] })
    (fun x _ _ X Y row hs hg hr => ⟨hs.1.keep hg (fun r e => (hr r e).2), hs.2⟩)
    ?assign ?body ?done ?stop
  case assign =>
    rintro l pre x W K ⟨⟨a, b, c, e, x', y, h1⟩, ⟨h2, h3⟩, h4, h5⟩ hK
    have f0 := h1.frozen 0
    have f1 := h1.frozen 1
    have f2 := h1.frozen 2
    have f3 := h1.frozen 3
    have f4 := h1.frozen 4
    have f5 := h1.frozen 5
    have c0 := h1.cell 0 _ rfl
    have c1 := h1.cell 1 _ rfl
    have c2 := h1.cell 2 _ rfl
    have c3 := h1.cell 3 _ rfl
    have c4 := h1.cell 4 _ rfl
    have c5 := h1.cell 5 _ rfl
    unfold segV at hK ⊢
    gi_wp2
    exact hK _ _ (six_keeps.from _) six_keepc ⟨⟨_, _, _, _, _, _, h1.six⟩, ⟨h2.six_other (by omega), h3.six_other (by omega)⟩, h4, six_below (by omega) h5⟩ ⟨h1.six, rfl⟩
  case body =>
    rintro l pre x a' W hl ⟨r, hr⟩ ⟨_, ⟨h2, h3⟩, h4, h5⟩ ⟨h1, rfl⟩ hlt
    have c0 := h1.cell 0 _ rfl
    have c1 := h1.cell 1 _ rfl
    have c2 := h1.cell 2 _ rfl
    have c3 := h1.cell 3 _ rfl
    have c4 := h1.cell 4 _ rfl
    have c5 := h1.cell 5 _ rfl
    have cd := h2.cell 0 _ rfl
    have H1 := Lib.hid h1
    have H2 := Lib.hid h2
    have H3 := Lib.hid h3
    have H4 := Lib.hid h4
    have H5 := Lib.hid h5
    have HE := Lib.hid (fun w' => segend_any (ps.getD x (0, 0)).1 (ps.getD x (0, 0)).2 (ps.getD (x + 1) (0, 0)).1 (ps.getD (x + 1) (0, 0)).2 (begV ps x) (dL ps x) w')
    obtain ⟨E, hE⟩ : ∃ E, E = wrap64 (begV ps x + dL ps x) := ⟨_, rfl⟩
    rw [← hE] at HE
    have hE := Lib.hid hE
    clear h1 h2 h3 h4 h5
    have h1' : 1 ≤ n - 1 - 1 := by omega
    have hmx : Try.prog.follows .mixedOrders = true := by kernel_rfl
    by_cases hge : d ≤ E
    · gi_wp2
      gi_region_with_o (refine ⟨trivial, ?_⟩; gi_at_call 85; refine (CallsIn.inRound l (callsIn_wide.2 (HE.out _))).mono ?_; rintro e W2 ⟨rfl, hb⟩; have cd2 := cell_below (a := ⟨w.heap.size + 1, 0, none⟩) (v := .int .i64 d) (by go_cell) hb; have KW := Lib.hid (show Below W.heap.size W W2 from Below.next (a := W) (by go_grown) hb); clear hb)
      all_goals gi_wp2
      all_goals exact ⟨(KeepsOthers.of_grownBy (below_grown KW.out) (by simp)).from _, rfl, pre, x, rfl, H1.out.below KW.out, H3.out.below KW.out, by rw [← hE.out]; exact hge, H4.out, H5.out.trans (KW.out.mono H5.out.size)⟩
    · gi_wp2
      gi_region_with_o (refine ⟨trivial, ?_⟩; gi_at_call 85; refine (CallsIn.inRound l (callsIn_wide.2 (HE.out _))).mono ?_; rintro e W2 ⟨rfl, hb⟩; have cd2 := cell_below (a := ⟨w.heap.size + 1, 0, none⟩) (v := .int .i64 d) (by go_cell) hb; have KW := Lib.hid (show Below W.heap.size W W2 from Below.next (a := W) (by go_grown) hb); clear hb)
      all_goals gi_wp2
      all_goals exact ⟨(KeepsOthers.of_grownBy (below_grown KW.out) (by simp)).from _, KeepC.below KW.out, ⟨_, _, _, _, _, _, H1.out.below KW.out⟩, ⟨H2.out.below KW.out, H3.out.below KW.out⟩, fun i hi => by
        rcases List.mem_append.1 hi with h | h
        · exact H4.out i h
        · obtain rfl : i = x := by simpa using h
          have := hE.out
          omega, H5.out.trans (KW.out.mono H5.out.size)⟩
  case done =>
    rintro D ys W hD rfl ⟨_, _, h4, _⟩ hK
    exfalso
    have h := h4 (ps.length - 2) (by simp; omega)
    have hb0 := begV_bd ps (ps.length - 2)
    have hd0 := dL_bd ps (ps.length - 2)
    have hs : begV ps (ps.length - 1) = begV ps (ps.length - 2) + dL ps (ps.length - 2) := by
      rw [show ps.length - 1 = ps.length - 2 + 1 by omega]; rfl
    rw [IntWalk.wrap64_in _ (by omega)] at h
    omega
  case stop =>
    rintro D c pre W hD ⟨k, hk, rfl⟩ ⟨rfl, p, x, hp, bA, bR, hx, hb, hB⟩ hK
    have hkx : k = x + 1 ∧ p = List.range x := by
      cases k with
      | zero => simp at hp
      | succ j =>
        rw [List.range_succ] at hp
        have e := List.append_inj' hp rfl
        simp only [List.cons.injEq, and_true] at e
        exact ⟨by omega, by rw [← e.1, e.2]⟩
    obtain ⟨rfl, rfl⟩ := hkx
    have hb0 := begV_bd ps x
    have hd0 := dL_bd ps x
    rw [IntWalk.wrap64_in _ (by omega)] at hx
    have HIX := Lib.hid (show SegIx ps d x from ⟨by omega, hx, fun j hj => by
      have h := hb j (by simpa using hj)
      have hb0 := begV_bd ps j
      have hd0 := dL_bd ps j
      rw [IntWalk.wrap64_in _ (by omega)] at h
      exact h⟩)
    unfold segC at bA
    have c0 := bA.cell 0 _ rfl
    have c1 := bA.cell 1 _ rfl
    have c2 := bA.cell 2 _ rfl
    have c3 := bA.cell 3 _ rfl
    have c4 := bA.cell 4 _ rfl
    have c5 := bA.cell 5 _ rfl
    have r0 := bR.cell 0 _ rfl
    have r1 := bR.cell 1 _ rfl
    have r2 := bR.cell 2 _ rfl
    have r3 := bR.cell 3 _ rfl
    have r4 := bR.cell 4 _ rfl
    have r5 := bR.cell 5 _ rfl
    have f0 := bR.frozen 0
    have f1 := bR.frozen 1
    have f2 := bR.frozen 2
    have f3 := bR.frozen 3
    have f4 := bR.frozen 4
    have f5 := bR.frozen 5
    have HB := Lib.hid hB
    clear hb hx hb0 hd0 hB
    gi_wp2
    have hK2 := (six_keeps (W := W) (B := w.heap.size + 1 + 1) (x0 := .int .i64 (ps.getD x (0, 0)).1) (x1 := .int .i64 (ps.getD x (0, 0)).2) (x2 := .int .i64 (ps.getD (x + 1) (0, 0)).1) (x3 := .int .i64 (ps.getD (x + 1) (0, 0)).2) (x4 := .int .i64 (begV ps x)) (x5 := .int .i64 (dL ps x))).same D _ hK rfl
    refine ⟨by simp, .inl ⟨_, _, rfl, run_takeDeferred hK2, ?_⟩⟩
    have bF := (bR.six (x0 := .int .i64 (ps.getD x (0, 0)).1) (x1 := .int .i64 (ps.getD x (0, 0)).2) (x2 := .int .i64 (ps.getD (x + 1) (0, 0)).1) (x3 := .int .i64 (ps.getD (x + 1) (0, 0)).2) (x4 := .int .i64 (begV ps x)) (x5 := .int .i64 (dL ps x))).keep (grownBy_putObj' _ D (.deferred none)) (fun r e => by cases e; exact ⟨_, hK2, rfl⟩)
    have AC := Lib.hid ((six_below (B := w.heap.size + 1 + 1) (x0 := .int .i64 (ps.getD x (0, 0)).1) (x1 := .int .i64 (ps.getD x (0, 0)).2) (x2 := .int .i64 (ps.getD (x + 1) (0, 0)).1) (x3 := .int .i64 (ps.getD (x + 1) (0, 0)).2) (x4 := .int .i64 (begV ps x)) (x5 := .int .i64 (dL ps x)) (by omega) HB.out).trans (belowK_b (w := w) (Nat.le_refl _) _ D _ (.deferred none) (by omega) hK2 rfl rfl))
    have v0 := bF.cell 0 _ rfl
    have v1 := bF.cell 1 _ rfl
    have v2 := bF.cell 2 _ rfl
    have v3 := bF.cell 3 _ rfl
    have v4 := bF.cell 4 _ rfl
    have v5 := bF.cell 5 _ rfl
    clear bF hK2 r0 r1 r2 r3 r4 r5 f0 f1 f2 f3 f4 f5 c0 c1 c2 c3 c4 c5 bA bR
    refine ⟨segV ps x, ?_, x, HIX.out, rfl, AC.out⟩
    unfold segV
    simp [results, Try.results52, go_sem] at v0 v1 v2 v3 v4 v5 ⊢
    simp [*]
end Go.Proofs.Ytcoldhdghcdaeaa
