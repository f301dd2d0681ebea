/- A reversed channel: the model's. -/
import Derived.Test.YtcoldhdghcdaeaaChnK
import Derived.Deep.RegionLaw
import Derived.Laws.AppendOwn
import Derived.Test.YtcoldhdghcdaeaaRevI
namespace Go.Proofs.Ytcoldhdghcdaeaa
open Go.ChangeShapes Go.WideShapes Go.ChangeAt Go.RowKit Pm

theorem ptsV_app (ps qs : Pts) : ptsV (ps ++ qs) = ptsV ps ++ ptsV qs := by simp [ptsV]
theorem ptcells (W : World) (n : Nat) (p : Int × Int) (c0 : W.cell? ⟨n, 0, none⟩ = some (.int .i64 p.1)) (c1 : W.cell? ⟨n, 1, none⟩ = some (.int .i64 p.2)) : ∀ j u, [Value.int .i64 p.1, .int .i64 p.2][j]? = some u → W.cell? ((⟨n, 0, none⟩ : Addr).add j) = some u := by
  intro j u hj
  match j, hj with
  | 0, hj => simp at hj; subst hj; simpa [Addr.add] using c0
  | 1, hj => simp at hj; subst hj; simpa [Addr.add] using c1
/-- A point appended to a row of the call's own, inside a region that draws its order. -/
theorem step_app_pt {ops : Array Oper} {o : Oper} {a : Act} {W : World} {K : Act → World → Prop} {Q : Exit → Act → World → Prop} {E : Prop} (hgd : o.guard = none) (s x : Operand)
    (B : Nat) (v : Value) (ps : Pts) (p : Int × Int) (n : Nat) (hown : OwnPt W B v ps) (c0 : W.cell? ⟨n, 0, none⟩ = some (.int .i64 p.1)) (c1 : W.cell? ⟨n, 1, none⟩ = some (.int .i64 p.2)) (hB : B ≤ W.heap.size) (hl : ps.length ≤ 1048577)
    (ho : o.op = .call { callee := .builtin .append, args := #[s, x], argTypes := #[27, 27] })
    (hs : a.eval s = v) (hx : a.eval x = .slice (some ⟨n, 0, none⟩) 1 1)
    (h : ∀ v' w', OwnPt w' B v' (ps ++ [p]) → Below B W w' → K (a.put o.dst v') w') :
    if Region.wanted o (yielded ops a.tmps) = true then Oper.wp Try.prog o a W K Q else E := by
  have hw : Region.wanted o (yielded ops a.tmps) = true := by simp [Region.wanted, hgd]
  rw [if_pos hw]
  obtain ⟨i0, hi, hz0, hz1, hz2⟩ := ptinfo_parts infoPt
  have hrow : W.ownsRow B 37 2 v ps.length (ptsV ps) := hown
  refine wp_append_own _ s x 27 ho B 37 i0 (.agg #[.int .i64 0, .int .i64 0]) 2 16 Try.underlying27 hi hz0 hz1 hz2 rfl (by decide) v ps.length (ptsV ps) hs hrow ⟨n, 0, none⟩ 1 1 [.int .i64 p.1, .int .i64 p.2] hx rfl (ptcells W n p c0 c1) (by intro u hu; simp at hu; rcases hu with rfl | rfl <;> rfl) (by unfold maxLen; omega) (by omega) hB ?_
  intro v' w' h2 h3 _
  refine h v' w' ?_ ?_
  · unfold OwnPt
    rw [ptsV_app, List.length_append, List.length_singleton]
    exact h2
  · exact (Below.refl B W).grown h3 hB (fun k hk => (hrow.lt k hk).1)
theorem rev_take (ps : Pts) (k : Nat) (h : k < ps.length) : ps.reverse.take (k + 1) = ps.reverse.take k ++ [ps.getD (ps.length - 1 - k) (0, 0)] := by
  rw [List.take_succ_eq_append_getElem (by simpa using h), List.getElem_reverse, pt_getD ps _ (by omega)]
set_option maxRecDepth 100000 in
set_option maxHeartbeats 4000000 in
theorem srevchn_any (s : ByteArray) (z : Int) (v : Value) (ps : Pts) (w : World) (hs : s.size ≤ maxLen) (hm : ps.length ≤ 1048576) (h : PtsL w v ps) :
    Calls Try.prog 33 #[.agg #[.string s, v, .int .i64 z]] w (RevRet s ps z w) := by
  have HO := Lib.hid (fun b w' (hb : Below w.heap.size w w') h2 => sokchn_any b s z v ps w' hs hm (h.below hb) h2)
  unfold RevRet
  cases hok : okC s ps z
  · rw [hok] at HO
    obtain ⟨a, c, rfl⟩ := pts_len h
    clear hok h
    go_enter Try.func33, Try.ntmps33
    go_wp2_with (go_at_call 38; (refine (HO.out _ _ (by go_grown) ((ChnAt.new (w := w) s _ z _ rfl).below ((Below.refl _ _).alloc (Nat.le_refl _) _))).mono ?_); rintro e w1 ⟨rfl, hb⟩; refine Hid.out ?_)
    refine Lib.hid ?_
    have r0 := cell_below (a := ⟨w.heap.size + 1, 0, none⟩) (v := .string ⟨#[]⟩) (by go_cell) hb
    have r1 := cell_below (a := ⟨w.heap.size + 1, 1, none⟩) (v := .slice none 0 0) (by go_cell) hb
    have r2 := cell_below (a := ⟨w.heap.size + 1, 2, none⟩) (v := .int .i64 0) (by go_cell) hb
    have g0 : w1.frozen? ⟨w.heap.size + 1, 0, none⟩ = false := by rw [hb.frozen (by simp)]; go_simp
    have g1 : w1.frozen? ⟨w.heap.size + 1, 1, none⟩ = false := by rw [hb.frozen (by simp)]; go_simp
    have g2 : w1.frozen? ⟨w.heap.size + 1, 2, none⟩ = false := by rw [hb.frozen (by simp)]; go_simp
    have AC := Lib.hid (Below.next (a := w) (by go_grown) hb)
    clear hb HO
    go_wp2
    refine bodyPost_ret (v := .tuple #[.agg #[.string ⟨#[]⟩, .slice none 0 0, .int .i64 0], .int .i64 1]) (by simp [results, Try.results33, go_sem, *]) rfl ⟨_, _, _, _, rfl, OwnPt.empty _ _, rfl, rfl, rfl, ?_⟩
    iterate 3 (refine Below.setCell ?_ (by simp only; omega) _)
    exact AC.out
  · rw [hok] at HO
    obtain ⟨_, l2, l12, _⟩ := okC_parts hok
    obtain ⟨a, c, rfl, h⟩ := h
    obtain ⟨bb, off, rfl, hp⟩ : ∃ bb off, a = some ⟨bb, off, none⟩ ∧ ∀ i, i < ps.length → w.cell? ⟨bb, off + i * 2, none⟩ = some (.int .i64 (ps.getD i (0, 0)).1) ∧ w.cell? ⟨bb, off + i * 2 + 1, none⟩ = some (.int .i64 (ps.getD i (0, 0)).2) := by
      rcases h with ⟨_, rfl⟩ | ⟨bb, off, cap, hv, _, hp⟩
      · simp at l2
      · simp at hv; exact ⟨bb, off, hv.1, hp⟩
    have HP := Lib.hid hp
    have HR := Lib.hid (fun k (hk : k < ps.length) => rev_take ps k hk)
    obtain ⟨n, hn⟩ : ∃ n, n = ps.length := ⟨_, rfl⟩
    have HN := Lib.hid hn
    rw [← hn] at l2 l12 HO
    clear hok h hp hn
    rw [← HN.out]
    go_enter Try.func33, Try.ntmps33
    go_wp2_with (go_at_call 38; (refine (HO.out _ _ (by go_grown) ((ChnAt.new (w := w) s _ z _ rfl).below ((Below.refl _ _).alloc (Nat.le_refl _) _))).mono ?_); rintro e w1 ⟨rfl, hb⟩; refine Hid.out ?_)
    refine Lib.hid ?_
    have c0 := cell_below (a := ⟨w.heap.size, 0, none⟩) (v := .string s) (by go_cell) hb
    have c1 := cell_below (a := ⟨w.heap.size, 1, none⟩) (v := .slice (some ⟨bb, off, none⟩) n c) (by go_cell) hb
    have c2 := cell_below (a := ⟨w.heap.size, 2, none⟩) (v := .int .i64 z) (by go_cell) hb
    have r0 := cell_below (a := ⟨w.heap.size + 1, 0, none⟩) (v := .string ⟨#[]⟩) (by go_cell) hb
    have r1 := cell_below (a := ⟨w.heap.size + 1, 1, none⟩) (v := .slice none 0 0) (by go_cell) hb
    have r2 := cell_below (a := ⟨w.heap.size + 1, 2, none⟩) (v := .int .i64 0) (by go_cell) hb
    have g0 : w1.frozen? ⟨w.heap.size + 1, 0, none⟩ = false := by rw [hb.frozen (by simp)]; go_simp
    have g1 : w1.frozen? ⟨w.heap.size + 1, 1, none⟩ = false := by rw [hb.frozen (by simp)]; go_simp
    have g2 : w1.frozen? ⟨w.heap.size + 1, 2, none⟩ = false := by rw [hb.frozen (by simp)]; go_simp
    have hsz : w.heap.size + 1 + 1 ≤ w1.heap.size := by have := hb.size; simpa using this
    have AC := Lib.hid (Below.next (a := w) (by go_grown) hb)
    clear hb HO
    obtain ⟨W, hW⟩ : ∃ W, W = w1.alloc (.cells #[.string s, .slice none 0 0, .int .i64 z] 29) := ⟨_, rfl⟩
    have ab : Below w1.heap.size w1 W := hW ▸ (Below.refl _ _).alloc (Nat.le_refl _) _
    have ACW := Lib.hid (Below.next AC.out ab)
    have hWs : W.heap.size = w1.heap.size + 1 := by rw [hW]; simp
    have X0 := Lib.hid (show ChnAt W w1.heap.size s (.slice none 0 0) z from hW ▸ ChnAt.new s _ z _ rfl)
    have XF := Lib.hid (show W.frozen? ⟨w1.heap.size, 1, none⟩ = false from by rw [hW]; go_simp)
    have CC := Lib.hid (And.intro (cell_below c0 ab) (And.intro (cell_below c1 ab) (cell_below c2 ab)))
    have RR := Lib.hid (And.intro (cell_below r0 ab) (And.intro (cell_below r1 ab) (cell_below r2 ab)))
    have GG := Lib.hid (And.intro ((ab.frozen (p := ⟨w.heap.size + 1, 0, none⟩) (by simp only; omega)).trans g0) (And.intro ((ab.frozen (p := ⟨w.heap.size + 1, 1, none⟩) (by simp only; omega)).trans g1) ((ab.frozen (p := ⟨w.heap.size + 1, 2, none⟩) (by simp only; omega)).trans g2)))
    have d1 := cell_below c1 ((Below.refl w1.heap.size w1).alloc (Nat.le_refl _) (.cells #[.string s, .slice none 0 0, .int .i64 z] 29))
    clear ab
    go_wp2_with (fail)
    rw [← hW]
    obtain ⟨O, hO⟩ : ∃ O, O = w1.heap.size := ⟨_, rfl⟩
    rw [← hO] at X0 XF hWs hsz ⊢
    clear hO hW d1 c0 c1 c2 r0 r1 r2 g0 g1 g2 AC
    go_loopw [5] (fun i wr => ∃ (k : Nat) (a' : Option Addr) (c' : Nat), k ≤ n ∧ i = .int .i64 ((n : Int) - 1 - k) ∧ ChnAt wr O s (.slice a' k c') z ∧ wr.frozen? ⟨O, 1, none⟩ = false ∧ OwnPt wr (O + 1) (.slice a' k c') (ps.reverse.take k) ∧ Below O W wr) (fun i _ => (intOf i + 1).toNat)
    case atStart => exact ⟨0, none, 0, Nat.zero_le _, by simp, X0.out, XF.out, OwnPt.empty _ _, Below.refl _ _⟩
    case round =>
      obtain ⟨k, a', c', hk, rfl, hx, hf, hown, hbel⟩ := hrel
      have HB := Lib.hid hbel
      have HOW := Lib.hid hown
      have HX := Lib.hid hx
      have BC := Lib.hid (And.intro ((HB.out.cell (p := ⟨w.heap.size, 0, none⟩) (by simp only; omega)).trans CC.out.1) (And.intro ((HB.out.cell (p := ⟨w.heap.size, 1, none⟩) (by simp only; omega)).trans CC.out.2.1) ((HB.out.cell (p := ⟨w.heap.size, 2, none⟩) (by simp only; omega)).trans CC.out.2.2)))
      have hos : O + 1 ≤ wr.heap.size := World.block_lt_of_cell? _ _ hx.1
      clear hbel hown
      by_cases hlt : k < n
      · obtain ⟨m, hm2⟩ : ∃ m : Nat, m + k + 1 = n := ⟨n - 1 - k, by omega⟩
        have hmi : (n : Int) - 1 - (k : Int) = (m : Int) := by omega
        have hm0 : (0 : Int) ≤ (m : Int) := by omega
        have hmn : (m : Int) < (n : Int) := by omega
        have hmp : ps.length - 1 - k = m := by have := HN.out; omega
        have HS2 := Lib.hid (HR.out k (by have := HN.out; omega))
        rw [hmp] at HS2
        have hBw : Below w.heap.size w wr := ACW.out.trans (HB.out.mono (by omega))
        have p0 := cell_below (HP.out m (by have := HN.out; omega)).1 hBw
        have p1 := cell_below (HP.out m (by have := HN.out; omega)).2 hBw
        have hll : (ps.reverse.take k).length ≤ 1048577 := by rw [List.length_take]; omega
        have hkl : (ps.reverse.take k).length = k := by rw [List.length_take, List.length_reverse]; have := HN.out; omega
        obtain ⟨e0, e1, e2⟩ := BC.out
        obtain ⟨x0, x1, x2⟩ := hx
        generalize ps.reverse.take k = L at *
        generalize ps.getD m (0, 0) = p at *
        obtain ⟨x, y⟩ := p
        simp only at p0 p1
        have y1 : ∀ o, (wr.alloc o).cell? ⟨O, 1, none⟩ = some (.slice a' k c') := fun o => cell_below x1 ((Below.refl wr.heap.size wr).alloc (Nat.le_refl _) o)
        have yf : ∀ o, (wr.alloc o).frozen? ⟨O, 1, none⟩ = false := fun o => (((Below.refl wr.heap.size wr).alloc (Nat.le_refl _) o).frozen (p := ⟨O, 1, none⟩) (by simp only; omega)).trans hf
        have HOA := Lib.hid (fun o => HOW.out.below ((Below.refl wr.heap.size wr).alloc (Nat.le_refl _) o).drew)
        have HBA := Lib.hid (fun o => (HB.out.alloc (by omega) o).drew)
        clear hBw
        go_wp2_with (fail)
        go_region_law ((refine step_app_pt rfl (.tmp 23) (.tmp 29) (O + 1) (.slice a' k c') L (x, y) wr.heap.size (HOA.out _) (by go_cell) (by go_cell) (by simp; omega) hll rfl rfl rfl ?_; intro v' w' h1 h2; obtain ⟨a2, c2', rfl⟩ := h1.form; have z0 : w'.cell? ⟨O, 0, none⟩ = some (.string s) := (h2.cell (p := ⟨O, 0, none⟩) (by simp)).trans (cell_below x0 (by go_grown)); have z1 : w'.cell? ⟨O, 1, none⟩ = some (.slice a' k c') := (h2.cell (p := ⟨O, 1, none⟩) (by simp)).trans (cell_below x1 (by go_grown)); have z2 : w'.cell? ⟨O, 2, none⟩ = some (.int .i64 z) := (h2.cell (p := ⟨O, 2, none⟩) (by simp)).trans (cell_below x2 (by go_grown)); have zf : w'.frozen? ⟨O, 1, none⟩ = false := (h2.frozen (p := ⟨O, 1, none⟩) (by simp)).trans (yf _); have ZO := Lib.hid h1; have ZB := Lib.hid ((HBA.out _).trans (h2.mono (by omega)))))
        all_goals
          go_wp2_with (fail)
          have hz := ZO.out
          rw [show (L ++ [(x, y)]).length = k + 1 by simp [hkl]] at hz
          refine ⟨⟨k + 1, a2, c2', by omega, by rw [show (n : Int) - 1 - ((k + 1 : Nat) : Int) = (m : Int) - 1 by omega], ⟨by go_cell, by go_cell, by go_cell⟩, by rw [World.frozen?_setCell]; exact zf, ?_, ZB.out.setCell (p := ⟨O, 1, none⟩) (Nat.le_refl _) _⟩, by simp [intOf]; omega⟩
          rw [HS2.out]
          exact hz.put (by simp) _
      · obtain rfl : k = n := by omega
        have hneg : ¬ (0 : Int) ≤ (k : Int) - 1 - k := by omega
        have HE := Lib.hid (show ps.reverse.take k = ps.reverse from List.take_of_length_le (by rw [List.length_reverse]; have := HN.out; omega))
        rw [HE.out] at HOW
        obtain ⟨x0, x1, x2⟩ := hx
        have r0 := (HB.out.cell (p := ⟨w.heap.size + 1, 0, none⟩) (by simp only; omega)).trans RR.out.1
        have r1 := (HB.out.cell (p := ⟨w.heap.size + 1, 1, none⟩) (by simp only; omega)).trans RR.out.2.1
        have r2 := (HB.out.cell (p := ⟨w.heap.size + 1, 2, none⟩) (by simp only; omega)).trans RR.out.2.2
        have g0 := (HB.out.frozen (p := ⟨w.heap.size + 1, 0, none⟩) (by simp only; omega)).trans GG.out.1
        have g1 := (HB.out.frozen (p := ⟨w.heap.size + 1, 1, none⟩) (by simp only; omega)).trans GG.out.2.1
        have g2 := (HB.out.frozen (p := ⟨w.heap.size + 1, 2, none⟩) (by simp only; omega)).trans GG.out.2.2
        have hlt2 : O ≠ w.heap.size + 1 := by omega
        have AC3 := Lib.hid (ACW.out.trans (HB.out.mono (by omega)))
        go_wp2
        refine bodyPost_ret (v := .tuple #[.agg #[.string s, .slice a' k c', .int .i64 z], .int .i64 0]) (by simp [results, Try.results33, go_sem, *]) rfl ⟨_, _, _, _, rfl, ?_, rfl, rfl, rfl, ?_⟩
        · refine OwnPt.mono (B := O + 1) ?_ (by omega)
          iterate 3 (refine OwnPt.put ?_ (by simp only; omega) _)
          exact HOW.out
        · iterate 3 (refine Below.setCell ?_ (by simp only; omega) _)
          exact AC3.out
end Go.Proofs.Ytcoldhdghcdaeaa
