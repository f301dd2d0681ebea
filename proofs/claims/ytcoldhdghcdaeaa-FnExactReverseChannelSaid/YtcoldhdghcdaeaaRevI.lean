/- A reversed channel: the program's. -/
import Derived.Test.YtcoldhdghcdaeaaChnK
import Derived.Laws.CopyRow
import Derived.Laws.CopyOwn
namespace Go.Proofs.Ytcoldhdghcdaeaa
open Go.ChangeShapes Go.WideShapes Go.ChangeAt Go.RowKit Pm

/-- A whole row of points copied into a row of the same length. -/
theorem run_copy_pts (w : World) (ty : TypeId) (g n dCap sCap : Nat) (a : Addr) (cur : Array Value) (t : TypeId) (cs : List Value)
    (hg : w.heap[g]? = some (.cells cur t (0, 0))) (hn : cs.length = n * 2) (hcur : cur.size = n * 2)
    (hsrc : ∀ j v, cs[j]? = some v → w.cell? (a.add j) = some v) (h1 : ∀ v ∈ cs, v.oneCell' = true) :
    (Builtin.copy_ #[27, 27] ty #[.slice (some ⟨g, 0, none⟩) n dCap, .slice (some a) n sCap]).run Try.prog w = .ok (goInt n) (w.setRow g cs.toArray) := by
  have hl := run_loadCells_list (P := Try.prog) w a cs hsrc
  have hst := run_storeCells_at Try.prog g 0 t cs 0 cur w hg (by omega) h1
  obtain ⟨i0, hi, hz0, hz1, hz2⟩ := ptinfo_parts infoPt
  have hmin : Nat.min n n = n := Nat.min_self n
  rw [hn] at hl
  have e : (cur.toList.take (0 + 0) ++ cs ++ cur.toList.drop (0 + 0 + cs.length)).toArray = cs.toArray := by
    have h2 : cur.toList.drop (0 + 0 + cs.length) = [] := List.drop_eq_nil_of_le (by simp; omega)
    rw [h2]; simp
  rw [e] at hst
  simp [Builtin.copy_, run_underlying Try.underlying27, Builtin.lenOf, Builtin.firstCells, sizeOf, typeInfo, hi, hz1, hl, hst]
theorem ptsV_one (ps : Pts) : ∀ v ∈ ptsV ps, v.oneCell' = true := by
  intro v hv
  simp only [ptsV, List.mem_flatMap, List.mem_cons, List.not_mem_nil, or_false] at hv
  obtain ⟨p, _, rfl | rfl⟩ := hv <;> rfl
theorem ptsV_cell {w : World} {b off : Nat} {ps : Pts} (hp : ∀ i, i < ps.length → w.cell? ⟨b, off + i * 2, none⟩ = some (.int .i64 (ps.getD i (0, 0)).1) ∧ w.cell? ⟨b, off + i * 2 + 1, none⟩ = some (.int .i64 (ps.getD i (0, 0)).2)) :
    ∀ j v, (ptsV ps)[j]? = some v → w.cell? ((⟨b, off, none⟩ : Addr).add j) = some v := by
  intro j v hj
  have hlt := (List.getElem?_eq_some_iff.1 hj).1
  rw [ptsV_len] at hlt
  have e : ((⟨b, off, none⟩ : Addr).add j) = ⟨b, off + j, none⟩ := by unfold Addr.add; split <;> simp_all
  rw [e]
  obtain ⟨h0, h1⟩ := ptsV_at ps (j / 2) (by omega)
  obtain ⟨c0, c1⟩ := hp (j / 2) (by omega)
  rcases Nat.mod_two_eq_zero_or_one j with h | h
  · have ej : j = j / 2 * 2 := by omega
    rw [ej] at hj ⊢
    rw [h0] at hj
    rw [← Option.some.inj hj]
    exact c0
  · have ej : j = j / 2 * 2 + 1 := by omega
    rw [ej] at hj ⊢
    rw [h1] at hj
    rw [← Option.some.inj hj]
    exact c1
set_option maxRecDepth 100000 in
set_option maxHeartbeats 1000000 in
theorem copypts_any (v : Value) (ps : Pts) (w : World) (h0 : 0 < ps.length) (hn : ps.length ≤ 1048576) (h : PtsL w v ps) :
    Calls Try.prog 67 #[v] w (PtsRet ps w) := by
  obtain ⟨a, c, rfl, h⟩ := h
  obtain ⟨b, off, rfl, hp⟩ : ∃ b off, a = some ⟨b, off, none⟩ ∧ ∀ i, i < ps.length → w.cell? ⟨b, off + i * 2, none⟩ = some (.int .i64 (ps.getD i (0, 0)).1) ∧ w.cell? ⟨b, off + i * 2 + 1, none⟩ = some (.int .i64 (ps.getD i (0, 0)).2) := by
    rcases h with ⟨_, rfl⟩ | ⟨bb, off, cap, hv, _, hp⟩
    · simp at h0
    · simp at hv; exact ⟨bb, off, hv.1, hp⟩
  have HPV := Lib.hid (fun w' (hb : Below w.heap.size w w') => ptsV_cell (w := w') (b := b) (off := off) (ps := ps) (fun i hi => ⟨cell_below (hp i hi).1 hb, cell_below (hp i hi).2 hb⟩))
  have hpl := ptsV_len ps
  have h1 := Lib.hid (ptsV_one ps)
  have HE := Lib.hid (show PtsRet ps w = fun e w' => ∃ v, e = .returned v ∧ w'.ownsRow w.heap.size 37 2 v ps.length (ptsV ps) ∧ Below w.heap.size w w' from rfl)
  rw [HE.out]
  clear HE
  obtain ⟨xs, hxs⟩ : ∃ xs, xs = ptsV ps := ⟨_, rfl⟩
  rw [← hxs] at HPV hpl h1 ⊢
  obtain ⟨n, hnn⟩ : ∃ n, n = ps.length := ⟨_, rfl⟩
  rw [← hnn] at hpl h0 hn ⊢
  have hne : ((n : Int) == 0) = false := by rw [beq_eq_false_iff_ne]; omega
  obtain ⟨i0, hi, hz0, hz1, hz2⟩ := ptinfo_parts infoPt
  clear hp h hxs hnn
  go_enter Try.func67, Try.ntmps67
  go_wp2_with (at_make; refine wpList_make_full _ rfl _ _ 27 rfl w.heap.size 37 i0 (.agg #[.int .i64 0, .int .i64 0]) 2 Try.underlying27 hi hz0 hz1 _ _ _ _ n rfl rfl rfl rfl (by rw [hz2]; omega) (by unfold maxLen; omega) (Nat.le_refl _) ?_)
  intro w1 hown hg
  have hb : Below w.heap.size w w1 := (Below.refl _ _).grown hg (Nat.le_refl _) (fun k hk => by cases hk)
  obtain ⟨cur, hcur, hcs, hlt⟩ : ∃ cur : Array Value, w1.heap[w.heap.size]? = some (.cells cur 37 (0, 0)) ∧ cur.size = n * 2 ∧ w.heap.size < w1.heap.size := by
    rcases hown.2 with ⟨e, _⟩ | ⟨g, cap, cur, e, _, h4, h5, _, h7, _⟩
    · cases e
    · simp only [Value.slice.injEq, Option.some.injEq, Addr.mk.injEq, and_true, true_and] at e
      obtain ⟨rfl, rfl⟩ := e
      refine ⟨cur, h4, h7, ?_⟩
      rcases Nat.lt_or_ge w.heap.size w1.heap.size with h' | h'
      · exact h'
      · rw [Array.getElem?_eq_none h'] at h4; cases h4
  have hcopy := fun ty => run_copy_pts w1 ty w.heap.size n n c ⟨b, off, none⟩ cur _ xs hcur hpl hcs (HPV.out _ hb) h1.out
  have HB2 := Lib.hid (below_setRow hb (Nat.le_refl w.heap.size) xs.toArray)
  have HO := Lib.hid (show (w1.setRow w.heap.size xs.toArray).ownsRow w.heap.size 37 2 (.slice (some ⟨w.heap.size, 0, none⟩) n n) n xs from
    ⟨hpl, .inr ⟨w.heap.size, n, xs.toArray, rfl, Nat.le_refl _, setRow_heap w1 _ cur _ _ _ hcur, Nat.le_refl _, by unfold maxLen; omega, by simp [hpl], by rw [List.take_of_length_le (by simp [hpl])]⟩⟩)
  clear hown hg hb hcur hcs
  go_wp2
  go_ret
  exact ⟨_, rfl, HO.out, HB2.out⟩
theorem ptsV_set : ∀ (L : Pts) (i : Nat) (x y : Int), i < L.length → ((ptsV L).set (i * 2) (.int .i64 x)).set (i * 2 + 1) (.int .i64 y) = ptsV (L.set i (x, y))
  | [], i, _, _, h => by simp at h
  | p :: L, 0, x, y, _ => rfl
  | p :: L, i + 1, x, y, h => by
    have := ptsV_set L i x y (by simpa using h)
    rw [show (i + 1) * 2 = i * 2 + 1 + 1 by omega]
    simpa [ptsV] using this
theorem OwnPt.put2 {w : World} {B g cap n i : Nat} {L : Pts} (h : OwnPt w B (.slice (some ⟨g, 0, none⟩) n cap) L) (hl : L.length = n) (hi : i < n) (x y : Int) :
    OwnPt ((w.setCell ⟨g, i * 2, none⟩ (.int .i64 x)).setCell ⟨g, i * 2 + 1, none⟩ (.int .i64 y)) B (.slice (some ⟨g, 0, none⟩) n cap) (L.set i (x, y)) := by
  unfold OwnPt at h ⊢
  rw [List.length_set, ← ptsV_set L i x y (by omega)]
  rw [hl] at h ⊢
  exact ((h.stored (i * 2) _).1.stored (i * 2 + 1) _).1
theorem OwnPt.at {w : World} {B g cap n i : Nat} {L : Pts} (h : OwnPt w B (.slice (some ⟨g, 0, none⟩) n cap) L) (hl : L.length = n) (hi : i < n) :
    w.cell? ⟨g, i * 2, none⟩ = some (.int .i64 (L.getD i (0, 0)).1) ∧ w.cell? ⟨g, i * 2 + 1, none⟩ = some (.int .i64 (L.getD i (0, 0)).2) ∧ w.frozen? ⟨g, i * 2, none⟩ = false ∧ w.frozen? ⟨g, i * 2 + 1, none⟩ = false := by
  unfold OwnPt at h
  rw [hl] at h
  obtain ⟨v0, v1⟩ := ptsV_at L i (by omega)
  exact ⟨(h.cellAt (i * 2) (by omega)).trans v0, (h.cellAt (i * 2 + 1) (by omega)).trans v1, h.frozenAt _, h.frozenAt _⟩
/-- The points after k swaps. -/
def Swapped (ps L : Pts) (k : Nat) : Prop := L.length = ps.length ∧ ∀ m, m < ps.length → L.getD m (0, 0) = if m < k ∨ ps.length ≤ m + k then ps.getD (ps.length - 1 - m) (0, 0) else ps.getD m (0, 0)
theorem Swapped.zero (ps : Pts) : Swapped ps ps 0 := ⟨rfl, fun m hm => by rw [if_neg (by omega)]⟩
theorem getD_set (L : Pts) (i m : Nat) (p : Int × Int) (hi : i < L.length) : (L.set i p).getD m (0, 0) = if i = m then p else L.getD m (0, 0) := by
  by_cases e : i = m
  · subst e; simp [hi]
  · simp [e]
theorem Swapped.step {ps L : Pts} {k j : Nat} (h : Swapped ps L k) (hk : k < j) (hj : k + j + 1 = ps.length) : Swapped ps ((L.set k (L.getD j (0, 0))).set j (L.getD k (0, 0))) (k + 1) := by
  obtain ⟨hl, h2⟩ := h
  refine ⟨by simp [hl], fun m hm => ?_⟩
  rw [getD_set _ _ _ _ (by simp; omega), getD_set _ _ _ _ (by omega)]
  have hkk := h2 k (by omega)
  have hjj := h2 j (by omega)
  rw [if_neg (by omega)] at hkk hjj
  by_cases e1 : j = m
  · subst e1
    rw [if_pos rfl, if_pos (by omega), hkk]
    congr 1; omega
  · rw [if_neg e1]
    by_cases e2 : k = m
    · subst e2
      rw [if_pos rfl, if_pos (by omega), hjj]
      congr 1; omega
    · rw [if_neg e2, h2 m hm]
      by_cases e3 : m < k ∨ ps.length ≤ m + k
      · rw [if_pos e3, if_pos (by omega)]
      · rw [if_neg e3, if_neg (by omega)]
theorem Swapped.done {ps L : Pts} {k : Nat} (h : Swapped ps L k) (hk : ps.length ≤ 2 * k + 1) : L = ps.reverse := by
  obtain ⟨hl, h2⟩ := h
  apply List.ext_getElem (by simp [hl])
  intro m h3 h4
  have h5 : m < ps.length := by simpa using h4
  have := h2 m h5
  rw [pt_getD L m h3] at this
  rw [this, List.getElem_reverse]
  split
  · rw [pt_getD ps _ (by omega)]
  · rw [pt_getD ps _ h5]
    congr 1; omega
set_option maxRecDepth 100000 in
set_option maxHeartbeats 4000000 in
theorem revslice_any (v : Value) (ps : Pts) (B : Nat) (w : World) (h0 : 0 < ps.length) (hn : ps.length ≤ 1048576) (ho : OwnPt w B v ps) :
    Calls Try.prog 68 #[v] w fun e w' => e = .returned (.tuple #[]) ∧ OwnPt w' B v ps.reverse ∧ Below B w w' := by
  rcases ho.row with ⟨rfl, rfl⟩ | ⟨g, cap, rfl, hB⟩
  · simp at h0
  · obtain ⟨n, hnn⟩ : ∃ n, n = ps.length := ⟨_, rfl⟩
    have HN := Lib.hid hnn
    rw [← hnn] at hn h0 ho ⊢
    have HO := Lib.hid ho
    clear ho hnn
    go_enter Try.func68, Try.ntmps68
    go_wp2_with (fail)
    go_loopw [2, 3] (fun i j wr => ∃ (k : Nat) (L : Pts), 2 * k ≤ n ∧ i = .int .i64 k ∧ j = .int .i64 ((n : Int) - 1 - k) ∧ Swapped ps L k ∧ OwnPt wr B (.slice (some ⟨g, 0, none⟩) n cap) L ∧ Below B w wr) (fun i _ _ => n - (intOf i).toNat)
    case atStart => exact ⟨0, ps, by omega, rfl, by simp, Swapped.zero ps, HO.out, Below.refl _ _⟩
    case round =>
      obtain ⟨k, L, hk, rfl, rfl, hsw, hown, hbel⟩ := hrel
      have HSW := Lib.hid hsw
      have HOW := Lib.hid hown
      have HBR := Lib.hid hbel
      have hLl : L.length = n := hsw.1.trans HN.out.symm
      clear hsw hown hbel
      by_cases hlt : 2 * k + 1 < n
      · obtain ⟨j, hj⟩ : ∃ j : Nat, k + j + 1 = n := ⟨n - 1 - k, by omega⟩
        have hji : (n : Int) - 1 - (k : Int) = (j : Int) := by omega
        have hkj : (k : Int) < (j : Int) := by omega
        have hkn : (k : Int) < (n : Int) := by omega
        have hjn : (j : Int) < (n : Int) := by omega
        obtain ⟨a0, a1, fa0, fa1⟩ := HOW.out.at hLl (i := k) (by omega)
        obtain ⟨b0, b1, fb0, fb1⟩ := HOW.out.at hLl (i := j) (by omega)
        have HST := Lib.hid (HSW.out.step (j := j) (by omega) (by have := HN.out; omega))
        have HP1 := Lib.hid ((HOW.out.put2 hLl (i := k) (by omega) (L.getD j (0, 0)).1 (L.getD j (0, 0)).2).put2 (by simp [hLl]) (i := j) (by omega) (L.getD k (0, 0)).1 (L.getD k (0, 0)).2)
        have HP2 := Lib.hid ((HOW.out.put2 hLl (i := j) (by omega) (L.getD k (0, 0)).1 (L.getD k (0, 0)).2).put2 (by simp [hLl]) (i := k) (by omega) (L.getD j (0, 0)).1 (L.getD j (0, 0)).2)
        have HC := Lib.hid (show (L.set j (L.getD k (0, 0))).set k (L.getD j (0, 0)) = (L.set k (L.getD j (0, 0))).set j (L.getD k (0, 0)) from List.set_comm _ _ (by omega))
        generalize hp : L.getD k (0, 0) = p at *
        generalize hq : L.getD j (0, 0) = q at *
        obtain ⟨x, y⟩ := p
        obtain ⟨x', y'⟩ := q
        simp only at a0 a1 b0 b1 HP1 HP2
        have HBA := Lib.hid (fun (a b c d : Value) (i1 i2 i3 i4 : Nat) => (((HBR.out.setCell (p := ⟨g, i1, none⟩) hB a).setCell (p := ⟨g, i2, none⟩) hB b).setCell (p := ⟨g, i3, none⟩) hB c).setCell (p := ⟨g, i4, none⟩) hB d)
        clear hp hq
        go_wp2_with (fail)
        go_region
        all_goals
          go_wp2_with (fail)
          refine ⟨⟨k + 1, (L.set k (x', y')).set j (x, y), by omega, by go_num, by rw [show (n : Int) - 1 - ((k + 1 : Nat) : Int) = (j : Int) - 1 by omega], HST.out, HP1.out.drew, (HBA.out _ _ _ _ _ _ _ _).drew⟩, ?_⟩
          simp [intOf]; omega
      · have hge : ¬ (k : Int) < (n : Int) - 1 - k := by omega
        have HE := Lib.hid (HSW.out.done (by have := HN.out; omega))
        go_wp2
        go_end0
        exact ⟨rfl, HE.out ▸ HOW.out, HBR.out⟩
/-- What ReverseChannel answers. -/
def RevRet (s : ByteArray) (ps : Pts) (z : Int) (w : World) (e : Ending) (w' : World) : Prop :=
  ∃ v s' z' c, e = .returned (.tuple #[.agg #[.string s', v, .int .i64 z'], .int .i64 c]) ∧ OwnPt w' w.heap.size v (if okC s ps z then ps.reverse else []) ∧ s' = (if okC s ps z then s else ⟨#[]⟩) ∧ z' = (if okC s ps z then z else 0) ∧ c = (if okC s ps z then 0 else 1) ∧ Below w.heap.size w w'
set_option maxRecDepth 100000 in
set_option maxHeartbeats 4000000 in
theorem revchn_any (s : ByteArray) (z : Int) (v : Value) (ps : Pts) (w : World) (hs : s.size ≤ maxLen) (hm : ps.length ≤ 1048576) (h : PtsL w v ps) :
    Calls Try.prog 34 #[.agg #[.string s, v, .int .i64 z]] w (RevRet s ps z w) := by
  have HO := Lib.hid (fun w' (hb : Below w.heap.size w w') => validchn_any s z v ps w' hs hm (h.below hb))
  unfold RevRet
  cases hok : okC s ps z
  · rw [hok] at HO
    obtain ⟨a, c, rfl⟩ := pts_len h
    clear hok h
    go_enter Try.func34, Try.ntmps34
    go_wp2_with (go_at_call 14; (refine (HO.out _ (by go_grown)).mono ?_); rintro e w1 ⟨rfl, hb⟩; refine Hid.out ?_)
    refine Lib.hid ?_
    have r0 := cell_below (a := ⟨w.heap.size + 1, 0, none⟩) (v := .string ⟨#[]⟩) (by go_cell) hb
    have r1 := cell_below (a := ⟨w.heap.size + 1, 1, none⟩) (v := .slice none 0 0) (by go_cell) hb
    have r2 := cell_below (a := ⟨w.heap.size + 1, 2, none⟩) (v := .int .i64 0) (by go_cell) hb
    have g0 : w1.frozen? ⟨w.heap.size + 1, 0, none⟩ = false := by rw [hb.frozen (by simp)]; go_simp
    have g1 : w1.frozen? ⟨w.heap.size + 1, 1, none⟩ = false := by rw [hb.frozen (by simp)]; go_simp
    have g2 : w1.frozen? ⟨w.heap.size + 1, 2, none⟩ = false := by rw [hb.frozen (by simp)]; go_simp
    have AC := Lib.hid (Below.next (a := w) (by go_grown) hb)
    clear hb HO
    go_wp2
    refine bodyPost_ret (v := .tuple #[.agg #[.string ⟨#[]⟩, .slice none 0 0, .int .i64 0], .int .i64 1]) (by simp [results, Try.results34, go_sem, *]) rfl ⟨_, _, _, _, rfl, OwnPt.empty _ _, rfl, rfl, rfl, ?_⟩
    iterate 3 (refine Below.setCell ?_ (by simp only; omega) _)
    exact AC.out
  · rw [hok] at HO
    obtain ⟨_, l2, l12, _⟩ := okC_parts hok
    have HCP := Lib.hid (fun w' (hb : Below w.heap.size w w') => copypts_any v ps w' (by omega) hm (h.below hb))
    have HRV := Lib.hid (fun w' v' B ho => revslice_any v' ps B w' (by omega) hm ho)
    obtain ⟨a, c, rfl⟩ := pts_len h
    clear hok h
    go_enter Try.func34, Try.ntmps34
    go_wp2_with (go_at_call 14; (refine (HO.out _ (by go_grown)).mono ?_); rintro e w1 ⟨rfl, hb⟩; refine Hid.out ?_)
    refine Lib.hid ?_
    have c0 := cell_below (a := ⟨w.heap.size, 0, none⟩) (v := .string s) (by go_cell) hb
    have c1 := cell_below (a := ⟨w.heap.size, 1, none⟩) (v := .slice a ps.length c) (by go_cell) hb
    have c2 := cell_below (a := ⟨w.heap.size, 2, none⟩) (v := .int .i64 z) (by go_cell) hb
    have f1 : w1.frozen? ⟨w.heap.size, 1, none⟩ = false := by rw [hb.frozen (by simp; omega)]; go_simp
    have r0 := cell_below (a := ⟨w.heap.size + 1, 0, none⟩) (v := .string ⟨#[]⟩) (by go_cell) hb
    have r1 := cell_below (a := ⟨w.heap.size + 1, 1, none⟩) (v := .slice none 0 0) (by go_cell) hb
    have r2 := cell_below (a := ⟨w.heap.size + 1, 2, none⟩) (v := .int .i64 0) (by go_cell) hb
    have g0 : w1.frozen? ⟨w.heap.size + 1, 0, none⟩ = false := by rw [hb.frozen (by simp)]; go_simp
    have g1 : w1.frozen? ⟨w.heap.size + 1, 1, none⟩ = false := by rw [hb.frozen (by simp)]; go_simp
    have g2 : w1.frozen? ⟨w.heap.size + 1, 2, none⟩ = false := by rw [hb.frozen (by simp)]; go_simp
    have hsz : w.heap.size + 1 + 1 ≤ w1.heap.size := by have := hb.size; simpa using this
    have AC := Lib.hid (Below.next (a := w) (by go_grown) hb)
    clear hb HO
    go_wp2_with (go_at_call 67; (refine (HCP.out _ AC.out).mono ?_); rintro e w2 ⟨v2, rfl, ho, hb⟩; refine Hid.out ?_)
    refine Lib.hid ?_
    have O2 := Lib.hid (show OwnPt w2 w1.heap.size v2 ps from ho)
    rcases O2.out.row with ⟨_, e⟩ | ⟨gg, cap, rfl, hB⟩
    · rw [e] at l2; simp at l2
    replace c0 := cell_below c0 hb
    replace c1 := cell_below c1 hb
    replace c2 := cell_below c2 hb
    replace r0 := cell_below r0 hb
    replace r1 := cell_below r1 hb
    replace r2 := cell_below r2 hb
    replace f1 := (hb.frozen (p := ⟨w.heap.size, 1, none⟩) (by simp only; omega)).trans f1
    replace g0 := (hb.frozen (p := ⟨w.heap.size + 1, 0, none⟩) (by simp only; omega)).trans g0
    replace g1 := (hb.frozen (p := ⟨w.heap.size + 1, 1, none⟩) (by simp only; omega)).trans g1
    replace g2 := (hb.frozen (p := ⟨w.heap.size + 1, 2, none⟩) (by simp only; omega)).trans g2
    have AC2 := Lib.hid (Below.next AC.out hb)
    have O3 := Lib.hid (O2.out.put (a := ⟨w.heap.size, 1, none⟩) (by simp only; omega) (.slice (some ⟨gg, 0, none⟩) ps.length cap))
    clear ho hb AC HCP
    go_wp2_with (go_at_call 68; (refine (HRV.out _ _ _ O3.out).mono ?_); rintro e w3 ⟨rfl, ho, hb⟩; refine Hid.out ?_)
    refine Lib.hid ?_
    have d0 : w3.cell? ⟨w.heap.size, 0, none⟩ = some (.string s) := (hb.cell (p := ⟨w.heap.size, 0, none⟩) (by simp only; omega)).trans (by go_cell)
    have d1 : w3.cell? ⟨w.heap.size, 1, none⟩ = some (.slice (some ⟨gg, 0, none⟩) ps.length cap) := (hb.cell (p := ⟨w.heap.size, 1, none⟩) (by simp only; omega)).trans (by go_cell)
    have d2 : w3.cell? ⟨w.heap.size, 2, none⟩ = some (.int .i64 z) := (hb.cell (p := ⟨w.heap.size, 2, none⟩) (by simp only; omega)).trans (by go_cell)
    have d3 : w3.cell? ⟨w.heap.size + 1, 0, none⟩ = some (.string ⟨#[]⟩) := (hb.cell (p := ⟨w.heap.size + 1, 0, none⟩) (by simp only; omega)).trans (by go_cell)
    have d4 : w3.cell? ⟨w.heap.size + 1, 1, none⟩ = some (.slice none 0 0) := (hb.cell (p := ⟨w.heap.size + 1, 1, none⟩) (by simp only; omega)).trans (by go_cell)
    have d5 : w3.cell? ⟨w.heap.size + 1, 2, none⟩ = some (.int .i64 0) := (hb.cell (p := ⟨w.heap.size + 1, 2, none⟩) (by simp only; omega)).trans (by go_cell)
    have q0 : w3.frozen? ⟨w.heap.size + 1, 0, none⟩ = false := (hb.frozen (p := ⟨w.heap.size + 1, 0, none⟩) (by simp only; omega)).trans (by rw [World.frozen?_setCell]; exact g0)
    have q1 : w3.frozen? ⟨w.heap.size + 1, 1, none⟩ = false := (hb.frozen (p := ⟨w.heap.size + 1, 1, none⟩) (by simp only; omega)).trans (by rw [World.frozen?_setCell]; exact g1)
    have q2 : w3.frozen? ⟨w.heap.size + 1, 2, none⟩ = false := (hb.frozen (p := ⟨w.heap.size + 1, 2, none⟩) (by simp only; omega)).trans (by rw [World.frozen?_setCell]; exact g2)
    have O4 := Lib.hid (ho.mono (B' := w.heap.size) (by omega))
    have O5 := Lib.hid ho
    have AC3 := Lib.hid ((AC2.out.setCell (p := ⟨w.heap.size, 1, none⟩) (Nat.le_refl _) (.slice (some ⟨gg, 0, none⟩) ps.length cap)).trans (hb.mono (by omega)))
    clear hb ho c0 c1 c2 r0 r1 r2 f1 g0 g1 g2 HRV O2 O3 AC2
    go_wp2
    refine bodyPost_ret (v := .tuple #[.agg #[.string s, .slice (some ⟨gg, 0, none⟩) ps.length cap, .int .i64 z], .int .i64 0]) (by simp [results, Try.results34, go_sem, *]) rfl ⟨_, _, _, _, rfl, ?_, rfl, rfl, rfl, ?_⟩
    · refine OwnPt.mono (B := w1.heap.size) ?_ (by omega)
      iterate 3 (refine OwnPt.put ?_ (by simp only; omega) _)
      exact O5.out
    · iterate 3 (refine Below.setCell ?_ (by simp only; omega) _)
      exact AC3.out
end Go.Proofs.Ytcoldhdghcdaeaa
