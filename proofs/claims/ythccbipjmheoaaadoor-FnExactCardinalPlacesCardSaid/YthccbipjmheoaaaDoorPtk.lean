/- Own rows of points, without channels: marks, what is held, a point appended. -/
import Derived.Test.YthccbipjmheoaaaDoorPtsE
import Derived.Test.YthccbipjmheoaaaDoorClx
import Derived.Laws.AppendOwn
namespace Go.Proofs.YthccbipjmheoaaaDoor
open Go.ChangeShapes Go.WideShapes Go.ChangeAt Go.RowKit Pm

abbrev Pts := List (Int × Int)
/-- An owned row of points. -/
def OwnPt (w : World) (B : Nat) (v : Value) (ps : List (Int × Int)) : Prop := w.ownsRow B 29 2 v ps.length (ptsV ps)
theorem OwnPt.below {w w' : World} {B : Nat} {v : Value} {ps : List (Int × Int)} (h : OwnPt w B v ps) (hb : Below w.heap.size w w') : OwnPt w' B v ps := own_below2 h hb
theorem OwnPt.mono {w : World} {B B' : Nat} {v : Value} {ps : List (Int × Int)} (h : OwnPt w B v ps) (hB : B' ≤ B) : OwnPt w B' v ps := by
  refine ⟨h.1, ?_⟩
  rcases h.2 with h2 | ⟨g, cap, cur, h1, h3, h4⟩
  · exact .inl h2
  · exact .inr ⟨g, cap, cur, h1, Nat.le_trans hB h3, h4⟩
theorem OwnPt.put {w : World} {B : Nat} {v : Value} {ps : List (Int × Int)} (h : OwnPt w B v ps) {a : Addr} (ha : a.block < B) (u : Value) : OwnPt (w.setCell a u) B v ps := ownsRow_setCell_below h ha u
theorem OwnPt.drew {w : World} {B : Nat} {v : Value} {ps : List (Int × Int)} (h : OwnPt w B v ps) : OwnPt w.drew B v ps := h.below (Below.refl _ _).drew
/-- A slice that reads as points, its length shown. -/
def PtsL (w : World) (v : Value) (ps : List (Int × Int)) : Prop := ∃ a c, v = .slice a ps.length c ∧ PtsAre w (.slice a ps.length c) ps
theorem PtsL.below {w w' : World} {v : Value} {ps : List (Int × Int)} (h : PtsL w v ps) (hb : Below w.heap.size w w') : PtsL w' v ps := by
  obtain ⟨a, c, rfl, h⟩ := h
  exact ⟨a, c, rfl, h.below hb⟩
theorem PtsL.are {w : World} {v : Value} {ps : List (Int × Int)} (h : PtsL w v ps) : PtsAre w v ps := by
  obtain ⟨a, c, rfl, h⟩ := h
  exact h
theorem OwnPt.pts {w : World} {B : Nat} {v : Value} {ps : List (Int × Int)} (h : OwnPt w B v ps) (hn : ps.length ≤ 1048576) : PtsL w v ps := by
  obtain ⟨a, c, e, hp⟩ := pts_of_own h hn
  exact ⟨a, c, e, hp⟩
theorem OwnPt.form {w : World} {B : Nat} {v : Value} {ps : List (Int × Int)} (h : OwnPt w B v ps) : ∃ a c, v = .slice a ps.length c := by
  rcases h.2 with ⟨h1, h2⟩ | ⟨g, cap, cur, h1, _⟩
  · exact ⟨_, _, by rw [h1, show ps.length = 0 by simpa using h2]⟩
  · exact ⟨_, _, h1⟩

def marksP (n : Nat) : Pts := (List.range n).map fun (j : Nat) => (((1 + 2 * j : Nat) : Int), ((1 + 2 * j + 1 : Nat) : Int))
theorem marksP_len (n : Nat) : (marksP n).length = n := by simp [marksP]
theorem marksP_at (n j : Nat) (h : j < n) : (ptsV (marksP n))[j * 2]? = some (.int .i64 ((1 + 2 * j : Nat) : Int)) ∧ (ptsV (marksP n))[j * 2 + 1]? = some (.int .i64 ((1 + 2 * j + 1 : Nat) : Int)) := by
  have := ptsV_at (marksP n) j (by rw [marksP_len]; exact h)
  have e : (marksP n).getD j (0, 0) = (((1 + 2 * j : Nat) : Int), ((1 + 2 * j + 1 : Nat) : Int)) := by simp [marksP, h]
  rw [e] at this
  exact this
/-- No block but one has changed. -/
def OnlyP (v : Value) (w w' : World) : Prop := w.heap.size ≤ w'.heap.size ∧ ∀ b, v.ownBlock ≠ some b → b < w.heap.size → w'.heap[b]? = w.heap[b]?
theorem OnlyP.refl (v : Value) (w : World) : OnlyP v w w := ⟨Nat.le_refl _, fun _ _ _ => rfl⟩
theorem OnlyP.below {v : Value} {w w1 w2 : World} (h : OnlyP v w w1) (hb : Below w1.heap.size w1 w2) : OnlyP v w w2 :=
  ⟨Nat.le_trans h.1 hb.size, fun b h1 h2 => by rw [hb.block b (by have := h.1; omega)]; exact h.2 b h1 h2⟩
theorem OnlyP.after {v : Value} {w w1 w2 : World} (hb : Below w.heap.size w w1) (h : OnlyP v w1 w2) : OnlyP v w w2 :=
  ⟨Nat.le_trans hb.size h.1, fun b h1 h2 => by rw [h.2 b h1 (by have := hb.size; omega)]; exact hb.block b h2⟩
theorem OnlyP.put {v : Value} {w w1 : World} {g j : Nat} {u : Value} (h : OnlyP v w w1) (hg : v.ownBlock = some g) : OnlyP v w (w1.setCell ⟨g, j, none⟩ u) :=
  ⟨by have := h.1; simpa [World.setCell] using this, fun b h1 h2 => by
    have hne : g ≠ b := fun e => h1 (by rw [hg, e])
    rw [Below.heap_setCell _ _ _ _ (fun e => hne e.symm)]
    exact h.2 b h1 h2⟩
theorem OnlyP.own {v v2 : Value} {w w' : World} {B2 : Nat} {L : Pts} (h : OnlyP v w w') (hv : ∀ g, v.ownBlock = some g → g < B2) (ho : OwnPt w B2 v2 L) : OwnPt w' B2 v2 L := by
  refine ⟨ho.1, ?_⟩
  rcases ho.2 with h2 | ⟨g, cap, cur, h1, h3, h4, h5⟩
  · exact .inl h2
  · refine .inr ⟨g, cap, cur, h1, h3, ?_, h5⟩
    have hlt : g < w.heap.size := by
      rcases Nat.lt_or_ge g w.heap.size with h' | h'
      · exact h'
      · rw [Array.getElem?_eq_none h'] at h4; cases h4
    rw [h.2 g (fun e => by have := hv g e; omega) hlt]; exact h4
theorem OnlyP.cell {v x : Value} {w w' : World} {b j : Nat} (h : OnlyP v w w') (hv : v.ownBlock ≠ some b) (hc : w.cell? ⟨b, j, none⟩ = some x) : w'.cell? ⟨b, j, none⟩ = some x := by
  have hlt : b < w.heap.size := World.block_lt_of_cell? _ _ hc
  have := h.2 b hv hlt
  unfold World.cell? at hc ⊢
  simp only at hc ⊢
  rw [this]; exact hc
theorem OwnPt.block {w : World} {B : Nat} {v : Value} {L : Pts} (h : OwnPt w B v L) : ∀ g, v.ownBlock = some g → B ≤ g ∧ g < w.heap.size := by
  intro g hg
  rcases h.2 with ⟨rfl, _⟩ | ⟨g2, cap, cur, rfl, h3, h4, h5⟩
  · cases hg
  · have e : g2 = g := by simpa [Value.ownBlock] using hg
    subst e
    rcases Nat.lt_or_ge g2 w.heap.size with h' | h'
    · exact ⟨h3, h'⟩
    · rw [Array.getElem?_eq_none h'] at h4; cases h4
theorem OwnPt.row {w : World} {B : Nat} {v : Value} {ps : Pts} (h : OwnPt w B v ps) : (v = .slice Option.none 0 0 ∧ ps = []) ∨ ∃ g cap, v = .slice (some ⟨g, 0, Option.none⟩) ps.length cap ∧ B ≤ g := by
  rcases h.2 with ⟨h1, h2⟩ | ⟨g, cap, cur, h1, h3, _⟩
  · exact .inl ⟨h1, List.length_eq_zero_iff.1 (by simpa using h2)⟩
  · exact .inr ⟨g, cap, h1, h3⟩
theorem OwnPt.empty (w : World) (B : Nat) : OwnPt w B (.slice none 0 0) [] := ⟨rfl, .inl ⟨rfl, rfl⟩⟩
set_option maxHeartbeats 1000000 in
theorem markpts_any (v : Value) (ps : Pts) (B : Nat) (w : World) (hn : ps.length ≤ 1048576) (ho : OwnPt w B v ps) :
    Calls Tryd.prog 14 #[v, .int .i64 1] w (fun e w' => e = .returned (.int .i64 (1 + 2 * ps.length)) ∧ OwnPt w' B v (marksP ps.length) ∧ Below B w w' ∧ OnlyP v w w') := by
  rcases ho.row with ⟨rfl, rfl⟩ | ⟨g, cap, rfl, hB⟩
  · clear ho
    go_enter Tryd.func14, Tryd.ntmps14
    go_wp2
    go_rounds 1
    go_ret
    exact ⟨rfl, OwnPt.empty _ _, Below.refl _ _, OnlyP.refl _ _⟩
  · obtain ⟨n, hnn⟩ : ∃ n, n = ps.length := ⟨_, rfl⟩
    have HO := Lib.hid (show w.ownsRow B 29 2 (.slice (some ⟨g, 0, none⟩) n cap) n (ptsV ps) by rw [hnn]; exact ho)
    have hpl : (ptsV ps).length = n * 2 := by rw [ptsV_len, hnn]
    rw [← hnn] at hn ⊢
    clear ho hnn
    go_enter Tryd.func14, Tryd.ntmps14
    go_wp2
    go_loopw [1, 5] (fun q i wr => ∃ (j : Nat) (ys : List Value), j ≤ n ∧ i = .int .i64 j ∧ q = .int .i64 ((1 + 2 * j : Nat) : Int) ∧ PtUpto ys (j * 2) (ptsV (marksP n)) ∧ wr.ownsRow B 29 2 (.slice (some ⟨g, 0, none⟩) n cap) n ys ∧ Below B w wr ∧ OnlyP (.slice (some ⟨g, 0, none⟩) n cap) w wr) (fun _ i _ => n - (intOf i).toNat)
    case atStart => exact ⟨0, ptsV ps, Nat.zero_le _, rfl, rfl, ⟨by rw [hpl, ptsV_len, marksP_len], fun j hj => by omega⟩, HO.out, Below.refl _ _, OnlyP.refl _ _⟩
    case round =>
      obtain ⟨j, ys, hj, rfl, rfl, hup, hown, hbel, honly⟩ := hrel
      have HON := Lib.hid honly
      have HU := Lib.hid hup
      have HOW := Lib.hid hown
      have HBR := Lib.hid hbel
      clear hup hown hbel honly
      by_cases hlt : j < n
      · have hkn : (j : Int) < (n : Int) := by omega
        obtain ⟨v0, v1⟩ := marksP_at n j hlt
        have hyl : ys.length = n * 2 := by have := HU.out.1; rw [ptsV_len, marksP_len] at this; exact this
        have u1 := HU.out.step (u := .int .i64 ((1 + 2 * j : Nat) : Int)) (by rw [ptsV_len, marksP_len]; omega) v0
        have u2 := u1.step (u := .int .i64 ((1 + 2 * j + 1 : Nat) : Int)) (by rw [ptsV_len, marksP_len]; omega) v1
        have HUP := Lib.hid u2
        have ho := HOW.out
        obtain ⟨z0, o0⟩ : ∃ z, wr.cell? ⟨g, j * 2, none⟩ = some z := ⟨_, (ho.cellAt (j * 2) (by omega)).trans (List.getElem?_eq_getElem (by omega))⟩
        obtain ⟨z1, o1⟩ : ∃ z, wr.cell? ⟨g, j * 2 + 1, none⟩ = some z := ⟨_, (ho.cellAt (j * 2 + 1) (by omega)).trans (List.getElem?_eq_getElem (by omega))⟩
        have f0 := ho.frozenAt (j * 2)
        have f1 := ho.frozenAt (j * 2 + 1)
        have HST := Lib.hid ((ho.stored (j * 2) (.int .i64 ((1 + 2 * j : Nat) : Int))).1.stored (j * 2 + 1) (.int .i64 ((1 + 2 * j + 1 : Nat) : Int))).1
        have HB2 := Lib.hid ((HBR.out.setCell (p := ⟨g, j * 2, none⟩) hB (.int .i64 ((1 + 2 * j : Nat) : Int))).setCell (p := ⟨g, j * 2 + 1, none⟩) hB (.int .i64 ((1 + 2 * j + 1 : Nat) : Int)))
        have HON2 := Lib.hid ((HON.out.put (g := g) (j := j * 2) (u := .int .i64 ((1 + 2 * j : Nat) : Int)) rfl).put (g := g) (j := j * 2 + 1) (u := .int .i64 ((1 + 2 * j + 1 : Nat) : Int)) rfl)
        clear u1 u2 v0 v1 ho
        go_wp2
        go_roundw
        case rel => exact ⟨j + 1, _, by omega, by go_num, by go_num, by rw [show (j + 1) * 2 = j * 2 + 1 + 1 by omega]; exact HUP.out, HST.out, HB2.out, HON2.out⟩
        case measure => simp [intOf]; omega
      · obtain rfl : j = n := by omega
        have e : ys = ptsV (marksP j) := by
          have h := HU.out
          rw [show j * 2 = (ptsV (marksP j)).length by rw [ptsV_len, marksP_len]] at h
          exact h.all
        have HO2 := Lib.hid (show OwnPt wr B (.slice (some ⟨g, 0, none⟩) j cap) (marksP j) by
          unfold OwnPt
          rw [marksP_len, ← e]; exact HOW.out)
        clear e HOW
        go_wp2
        go_ret
        exact ⟨by go_num, HO2.out, HBR.out, HON.out⟩
set_option maxHeartbeats 1000000 in
theorem heldpts_any (v : Value) (n : Nat) (B : Nat) (w : World) (hn : n ≤ 1048576) (ho : OwnPt w B v (marksP n)) :
    Calls Tryd.prog 15 #[v, .int .i64 1] w (fun e w' => e = .returned (.int .i64 (1 + 2 * n)) ∧ Below w.heap.size w w') := by
  rcases ho.row with ⟨rfl, e⟩ | ⟨g, cap, rfl, hB⟩
  · have h0 : n = 0 := by have := marksP_len n; rw [e] at this; exact this.symm
    subst h0
    clear ho e
    go_enter Tryd.func15, Tryd.ntmps15
    go_wp2
    go_rounds 1
    go_ret
    exact ⟨rfl, Below.refl _ _⟩
  · have hcell : ∀ j, j < n → w.cell? ⟨g, j * 2, none⟩ = some (.int .i64 ((1 + 2 * j : Nat) : Int)) ∧ w.cell? ⟨g, j * 2 + 1, none⟩ = some (.int .i64 ((1 + 2 * j + 1 : Nat) : Int)) := fun j hj => by
      have h' : w.ownsRow B 29 2 (.slice (some ⟨g, 0, none⟩) (marksP n).length cap) (marksP n).length (ptsV (marksP n)) := ho
      obtain ⟨v0, v1⟩ := marksP_at n j hj
      rw [marksP_len] at h'
      exact ⟨(h'.cellAt (j * 2) (by omega)).trans v0, (h'.cellAt (j * 2 + 1) (by omega)).trans v1⟩
    rw [marksP_len]
    have HC := Lib.hid hcell
    clear hcell ho
    go_enter Tryd.func15, Tryd.ntmps15
    go_wp2
    go_loopw [1, 5] (fun q i wr => ∃ (j : Nat), j ≤ n ∧ i = .int .i64 j ∧ q = .int .i64 ((1 + 2 * j : Nat) : Int) ∧ Below w.heap.size w wr) (fun _ i _ => n - (intOf i).toNat)
    case atStart => exact ⟨0, Nat.zero_le _, rfl, rfl, Below.refl _ _⟩
    case round =>
      obtain ⟨j, hj, rfl, rfl, hbel⟩ := hrel
      have HBR := Lib.hid hbel
      by_cases hlt : j < n
      · have hkn : (j : Int) < (n : Int) := by omega
        have c0 := cell_below (HC.out j hlt).1 hbel
        have c1 := cell_below (HC.out j hlt).2 hbel
        clear hbel
        go_wp2
        go_roundw
        case rel => exact ⟨j + 1, by omega, by go_num, by go_num, HBR.out⟩
        case measure => simp [intOf]; omega
      · obtain rfl : j = n := by omega
        clear hbel
        go_wp2
        go_ret
        exact ⟨by go_num, HBR.out⟩
theorem ptsV_appP (ps qs : Pts) : ptsV (ps ++ qs) = ptsV ps ++ ptsV qs := by simp [ptsV]
theorem ptcellsP (wr : World) (x y : Int) (T : TypeId) : ∀ j u, [Value.int .i64 x, .int .i64 y][j]? = some u → (wr.alloc (.cells #[.int .i64 x, .int .i64 y] T)).cell? ((⟨wr.heap.size, 0, none⟩ : Addr).add j) = some u := by
  intro j u hj
  match j, hj with
  | 0, hj => simp at hj; subst hj; simp [Addr.add]
  | 1, hj => simp at hj; subst hj; simp [Addr.add]
theorem wpList_app_pt {ops : Array Oper} {rest : List Oper} {o : Oper} {a : Act} {Q : Exit → Act → World → Prop} (hgd : o.guard = none) (s x : Operand)
    (B : Nat) (v : Value) (ps : Pts) (px py : Int) (wr : World) (T : TypeId) (hown : OwnPt wr B v ps) (hB : B ≤ wr.heap.size) (hl : ps.length ≤ 1048577)
    (ho : o.op = .call { callee := .builtin .append, args := #[s, x], argTypes := #[35, 35] })
    (hs : a.eval s = v) (n : Nat) (hn : wr.heap.size = n) (hx : a.eval x = .slice (some ⟨n, 0, none⟩) 1 1)
    (h : ∀ v' w', OwnPt w' B v' (ps ++ [(px, py)]) → Below B wr w' → wpList Tryd.prog ops Q rest (a.put o.dst v') w') :
    wpList Tryd.prog ops Q (o :: rest) a (wr.alloc (.cells #[.int .i64 px, .int .i64 py] T)) := by
  subst hn
  obtain ⟨i0, hi, hz0, hz1, hz2⟩ := ptinfo_parts infoPt
  have hrow : (wr.alloc (.cells #[.int .i64 px, .int .i64 py] T)).ownsRow B 29 2 v ps.length (ptsV ps) := hown.below ((Below.refl _ _).alloc (Nat.le_refl _) _)
  refine wpList_append_own _ hgd s x 35 ho B 29 i0 (.agg #[.int .i64 0, .int .i64 0]) 2 16 Tryd.underlying35 hi hz0 hz1 hz2 rfl (by decide) v ps.length (ptsV ps) hs hrow ⟨wr.heap.size, 0, none⟩ 1 1 [.int .i64 px, .int .i64 py] hx rfl (ptcellsP wr px py T) (by intro u hu; simp at hu; rcases hu with rfl | rfl <;> rfl) (by unfold maxLen; omega) (by omega) (by simp; omega) ?_
  intro v' w' h2 h3 _
  refine h v' w' ?_ ?_
  · unfold OwnPt
    rw [ptsV_appP, List.length_append, List.length_singleton]
    exact h2
  · exact ((Below.refl B wr).alloc hB _).grown h3 (by simp; omega) (fun k hk => (hrow.lt k hk).1)
end Go.Proofs.YthccbipjmheoaaaDoor
