/- Whether two characters of lights are equal: the program and the model. -/
import Derived.Test.YthggoboljkdldaaChrI
import Derived.WalkSmall
namespace Go.Proofs.Ythggoboljkdldaa
open Go.ChangeShapes Go.WideShapes Go.ChangeAt Go.RowKit Pm

/-- Comparing two slices of numbers: the model. -/
theorem sl00same_any (v1 v2 : Value) (zs ys : List Int) (w : World) (h1 : IntsAre .i64 w v1 zs) (h2 : IntsAre .i64 w v2 ys) :
    Calls Try.prog 14 #[v1, v2] w fun e w' => e = .returned (.bool (decide (zs = ys))) ∧ ∃ n, w' = w.drewN n := by
  by_cases hl : zs.length = ys.length
  · by_cases h0 : zs = []
    · subst h0
      have hy : ys = [] := List.length_eq_zero_iff.1 hl.symm
      subst hy
      obtain ⟨a1, c1, rfl⟩ := len_form h1
      obtain ⟨a2, c2, rfl⟩ := len_form h2
      clear h1 h2 hl
      go_enter Try.func14, Try.ntmps14
      go_wp2
      go_rounds 1
      go_ret
      exact ⟨rfl, 0, rfl⟩
    · have hy0 : ys ≠ [] := by intro e; subst e; exact h0 (List.length_eq_zero_iff.1 hl)
      rcases h1 with ⟨_, e⟩ | ⟨b1, o1, c1, rfl, hm, hc1⟩
      · exact absurd e h0
      rcases h2 with ⟨_, e⟩ | ⟨b2, o2, c2, rfl, _, hc2⟩
      · exact absurd e hy0
      rw [← hl] at hc2 ⊢
      have HC1 := Lib.hid hc1
      have HC2 := Lib.hid hc2
      have HL := Lib.hid hl
      clear h0 hy0 hc1 hc2 hl
      go_enter Try.func14, Try.ntmps14
      go_wp2
      go_loopw [5] (fun i wr => ∃ (k m : Nat), k ≤ zs.length ∧ i = .int .i64 k ∧ (∀ j, j < k → zs.getD j 0 = ys.getD j 0) ∧ wr = w.drewN m) (fun i _ => zs.length - (intOf i).toNat)
      case atStart => exact ⟨0, 0, Nat.zero_le _, rfl, fun _ h => absurd h (Nat.not_lt_zero _), rfl⟩
      case round =>
        obtain ⟨k, m, hk, rfl, hall, rfl⟩ := hrel
        have HA := Lib.hid hall
        clear hall
        by_cases hlt : k < zs.length
        · have c1' := HC1.out k hlt
          have c2' := HC2.out k hlt
          have hki : (k : Int) < (zs.length : Int) := by omega
          by_cases hz : zs.getD k 0 = ys.getD k 0
          · have HA2 := Lib.hid (show ∀ j, j < k + 1 → zs.getD j 0 = ys.getD j 0 from fun j hj => by
              by_cases e : j = k
              · rw [e]; exact hz
              · exact HA.out j (by omega))
            rw [← hz] at c2'
            generalize zs.getD k 0 = z at c1' c2'
            clear hz
            go_wp2_with (fail)
            go_quiet (fail)
            go_wp2
            go_roundw
            case rel => exact ⟨k + 1, _, by omega, by go_num, HA2.out, rfl⟩
            case measure => simp [intOf]; omega
          · have HD := Lib.hid (show decide (zs = ys) = false from decide_eq_false (fun e => hz (by rw [e])))
            have hzb : (zs.getD k 0 != ys.getD k 0) = true := by simpa using hz
            generalize zs.getD k 0 = z at c1' hzb
            generalize ys.getD k 0 = y at c2' hzb
            clear hz
            go_wp2_with (fail)
            go_quiet (fail)
            go_wp2
            go_ret
            exact ⟨retB HD.out.symm, _, by rw [World.drewN_drewN]⟩
        · obtain rfl : k = zs.length := by omega
          have HD := Lib.hid (show decide (zs = ys) = true from decide_eq_true (getD_ext HL.out HA.out))
          go_wp2
          go_ret
          exact ⟨retB HD.out.symm, _, rfl⟩
  · have HD := Lib.hid (show decide (zs = ys) = false from decide_eq_false (fun e => hl (by rw [e])))
    obtain ⟨a1, c1, rfl⟩ := len_form h1
    obtain ⟨a2, c2, rfl⟩ := len_form h2
    have hlb : ((zs.length : Int) != (ys.length : Int)) = true := by rw [bne_iff_ne]; omega
    clear h1 h2 hl
    go_enter Try.func14, Try.ntmps14
    go_wp2
    go_ret
    exact ⟨retB HD.out.symm, 0, rfl⟩

theorem same_b (s u : ByteArray) : (s.toList == u.toList) = decide (s.data.toList = u.data.toList) := by
  rw [ByteArray.toList_eq, ByteArray.toList_eq, Bool.eq_iff_iff]; simp
/-- Are two characters equal? -/
def sameB (k1 k2 p1 p2 : Int) (g1 g2 : List Int) (s1 s2 t1 t2 : ByteArray) : Bool :=
  decide (k1 = k2) && (decide (g1 = g2) && (decide (s1.data.toList = s2.data.toList) && (decide (t1.data.toList = t2.data.toList) && decide (p1 = p2))))
theorem quiet_more {P : Program} {f : FuncId} {args : Array Value} {w : World} {n : Nat} {v : Value}
    (h : Calls P f args (w.drewN n) fun e w' => e = .returned v ∧ ∃ m, w' = (w.drewN n).drewN m) : Calls P f args (w.drewN n) fun e w'' => e = .returned v ∧ ∃ m, w'' = w.drewN m :=
  h.mono fun _ _ ⟨he, m, hm⟩ => ⟨he, n + m, by rw [hm, World.drewN_drewN]⟩
theorem drewN_cell (w : World) (n : Nat) (a : Addr) : (w.drewN n).cell? a = w.cell? a := rfl
theorem IntsAre.drewN {k : IntKind} {w : World} {v : Value} {zs : List Int} (h : IntsAre k w v zs) (n : Nat) : IntsAre k (w.drewN n) v zs := h.below (below_drewN (Below.refl _ _) n)
set_option maxRecDepth 100000 in
set_option maxHeartbeats 1000000 in
theorem samechr_any (k1 k2 p1 p2 : Int) (g1 g2 : List Int) (s1 s2 t1 t2 : ByteArray) (v1 v2 : Value) (w : World) (h1 : IntsAre .i64 w v1 g1) (h2 : IntsAre .i64 w v2 g2) :
    Calls Try.prog 7 #[.agg #[.int .i64 k1, v1, .string s1, .string t1, .int .i64 p1], .agg #[.int .i64 k2, v2, .string s2, .string t2, .int .i64 p2]] w fun e w' => e = .returned (.bool (sameB k1 k2 p1 p2 g1 g2 s1 s2 t1 t2)) ∧ Below w.heap.size w w' := by
  have HE := fun w' (a : IntsAre .i64 w' v1 g1) (b : IntsAre .i64 w' v2 g2) => equal_any v1 v2 g1 g2 w' a b
  have H1 := Lib.hid h1
  have H2 := Lib.hid h2
  obtain ⟨a1, n1, rfl⟩ := len_form h1
  obtain ⟨a2, n2, rfl⟩ := len_form h2
  clear h1 h2
  by_cases ck : k1 = k2
  · have bk : (k1 == k2) = true := beq_iff_eq.2 ck
    have V1 := Lib.hid (show sameB k1 k2 p1 p2 g1 g2 s1 s2 t1 t2 = (decide (g1 = g2) && (decide (s1.data.toList = s2.data.toList) && (decide (t1.data.toList = t2.data.toList) && decide (p1 = p2)))) by unfold sameB; rw [decide_eq_true ck, Bool.true_and])
    clear ck
    by_cases cg : g1 = g2
    · rw [decide_eq_true cg] at HE
      have HE := Lib.hid HE
      have V2 := Lib.hid (show sameB k1 k2 p1 p2 g1 g2 s1 s2 t1 t2 = (decide (s1.data.toList = s2.data.toList) && (decide (t1.data.toList = t2.data.toList) && decide (p1 = p2))) by rw [V1.out, decide_eq_true cg, Bool.true_and])
      clear cg V1
      cases cs : decide (s1.data.toList = s2.data.toList)
      · have V3 := Lib.hid (show sameB k1 k2 p1 p2 g1 g2 s1 s2 t1 t2 = false by rw [V2.out, cs, Bool.false_and])
        have bs := (same_b s1 s2).trans cs
        clear cs V2
        go_enter Try.func7, Try.ntmps7
        go_wp2_with (go_at_call 12; (refine (HE.out _ (H1.out.below (by go_grown)) (H2.out.below (by go_grown))).mono ?_); rintro e w1 ⟨rfl, nq, rfl⟩)
        go_ret
        exact ⟨retB (by rw [V3.out]), by first | exact below_drewN (by go_grown) _ | go_grown⟩
      · have V3 := Lib.hid (show sameB k1 k2 p1 p2 g1 g2 s1 s2 t1 t2 = (decide (t1.data.toList = t2.data.toList) && decide (p1 = p2)) by rw [V2.out, cs, Bool.true_and])
        have bs := (same_b s1 s2).trans cs
        clear cs V2
        cases ct : decide (t1.data.toList = t2.data.toList)
        · have V4 := Lib.hid (show sameB k1 k2 p1 p2 g1 g2 s1 s2 t1 t2 = false by rw [V3.out, ct, Bool.false_and])
          have bt := (same_b t1 t2).trans ct
          clear ct V3
          go_enter Try.func7, Try.ntmps7
          go_wp2_with (go_at_call 12; (refine (HE.out _ (H1.out.below (by go_grown)) (H2.out.below (by go_grown))).mono ?_); rintro e w1 ⟨rfl, nq, rfl⟩)
          go_ret
          exact ⟨retB (by rw [V4.out]), by first | exact below_drewN (by go_grown) _ | go_grown⟩
        · have V4 := Lib.hid (show sameB k1 k2 p1 p2 g1 g2 s1 s2 t1 t2 = (p1 == p2) by rw [V3.out, ct, Bool.true_and]; rw [Bool.eq_iff_iff]; simp)
          have bt := (same_b t1 t2).trans ct
          clear ct V3
          go_enter Try.func7, Try.ntmps7
          go_wp2_with (go_at_call 12; (refine (HE.out _ (H1.out.below (by go_grown)) (H2.out.below (by go_grown))).mono ?_); rintro e w1 ⟨rfl, nq, rfl⟩)
          go_ret
          exact ⟨retB (by rw [V4.out]), by first | exact below_drewN (by go_grown) _ | go_grown⟩
    · rw [decide_eq_false cg] at HE
      have HE := Lib.hid HE
      have V2 := Lib.hid (show sameB k1 k2 p1 p2 g1 g2 s1 s2 t1 t2 = false by rw [V1.out, decide_eq_false cg, Bool.false_and])
      clear cg V1
      go_enter Try.func7, Try.ntmps7
      go_wp2_with (go_at_call 12; (refine (HE.out _ (H1.out.below (by go_grown)) (H2.out.below (by go_grown))).mono ?_); rintro e w1 ⟨rfl, nq, rfl⟩)
      go_ret
      exact ⟨retB (by rw [V2.out]), by first | exact below_drewN (by go_grown) _ | go_grown⟩
  · have bk : (k1 == k2) = false := beq_eq_false_iff_ne.2 ck
    have V1 := Lib.hid (show sameB k1 k2 p1 p2 g1 g2 s1 s2 t1 t2 = false by unfold sameB; rw [decide_eq_false ck, Bool.false_and])
    clear ck HE
    go_enter Try.func7, Try.ntmps7
    go_wp2_with (go_at_call 12; (refine (HE.out _ (H1.out.below (by go_grown)) (H2.out.below (by go_grown))).mono ?_); rintro e w1 ⟨rfl, nq, rfl⟩)
    go_ret
    exact ⟨retB (by rw [V1.out]), by first | exact below_drewN (by go_grown) _ | go_grown⟩
set_option maxRecDepth 100000 in
set_option maxHeartbeats 1000000 in
theorem sl05same_any (b1 b2 : Nat) (k1 k2 p1 p2 : Int) (g1 g2 : List Int) (s1 s2 t1 t2 : ByteArray) (v1 v2 : Value) (w : World) (h1 : IntsAre .i64 w v1 g1) (h2 : IntsAre .i64 w v2 g2) (c10 : w.cell? ⟨b1, 0, none⟩ = some (.int .i64 k1)) (c11 : w.cell? ⟨b1, 1, none⟩ = some v1) (c12 : w.cell? ⟨b1, 2, none⟩ = some (.string s1)) (c13 : w.cell? ⟨b1, 3, none⟩ = some (.string t1)) (c14 : w.cell? ⟨b1, 4, none⟩ = some (.int .i64 p1)) (c20 : w.cell? ⟨b2, 0, none⟩ = some (.int .i64 k2)) (c21 : w.cell? ⟨b2, 1, none⟩ = some v2) (c22 : w.cell? ⟨b2, 2, none⟩ = some (.string s2)) (c23 : w.cell? ⟨b2, 3, none⟩ = some (.string t2)) (c24 : w.cell? ⟨b2, 4, none⟩ = some (.int .i64 p2)) :
    Calls Try.prog 10 #[.pointer (some ⟨b1, 0, none⟩), .pointer (some ⟨b2, 0, none⟩)] w fun e w' => e = .returned (.bool (sameB k1 k2 p1 p2 g1 g2 s1 s2 t1 t2)) ∧ ∃ n, w' = w.drewN n := by
  have HE := fun n => quiet_more (sl00same_any v1 v2 g1 g2 (w.drewN n) (h1.drewN n) (h2.drewN n))
  obtain ⟨a1, n1, rfl⟩ := len_form h1
  obtain ⟨a2, n2, rfl⟩ := len_form h2
  clear h1 h2
  by_cases ck : k1 = k2
  · have bk : (k1 == k2) = true := beq_iff_eq.2 ck
    have V1 := Lib.hid (show sameB k1 k2 p1 p2 g1 g2 s1 s2 t1 t2 = (decide (g1 = g2) && (decide (s1.data.toList = s2.data.toList) && (decide (t1.data.toList = t2.data.toList) && decide (p1 = p2)))) by unfold sameB; rw [decide_eq_true ck, Bool.true_and])
    clear ck
    by_cases cg : g1 = g2
    · rw [decide_eq_true cg] at HE
      have HE := Lib.hid HE
      have V2 := Lib.hid (show sameB k1 k2 p1 p2 g1 g2 s1 s2 t1 t2 = (decide (s1.data.toList = s2.data.toList) && (decide (t1.data.toList = t2.data.toList) && decide (p1 = p2))) by rw [V1.out, decide_eq_true cg, Bool.true_and])
      clear cg V1
      cases cs : decide (s1.data.toList = s2.data.toList)
      · have V3 := Lib.hid (show sameB k1 k2 p1 p2 g1 g2 s1 s2 t1 t2 = false by rw [V2.out, cs, Bool.false_and])
        have bs := (same_b s1 s2).trans cs
        clear cs V2
        go_enter Try.func10, Try.ntmps10
        go_wp2_with (fail)
        go_quiet ((go_at_call 14; exact HE.out _))
        go_wp2_with (fail)
        go_ret
        exact ⟨retB (by rw [V3.out]), _, rfl⟩
      · have V3 := Lib.hid (show sameB k1 k2 p1 p2 g1 g2 s1 s2 t1 t2 = (decide (t1.data.toList = t2.data.toList) && decide (p1 = p2)) by rw [V2.out, cs, Bool.true_and])
        have bs := (same_b s1 s2).trans cs
        clear cs V2
        cases ct : decide (t1.data.toList = t2.data.toList)
        · have V4 := Lib.hid (show sameB k1 k2 p1 p2 g1 g2 s1 s2 t1 t2 = false by rw [V3.out, ct, Bool.false_and])
          have bt := (same_b t1 t2).trans ct
          clear ct V3
          go_enter Try.func10, Try.ntmps10
          go_wp2_with (fail)
          go_quiet ((go_at_call 14; exact HE.out _))
          go_wp2_with (fail)
          go_ret
          exact ⟨retB (by rw [V4.out]), _, rfl⟩
        · have V4 := Lib.hid (show sameB k1 k2 p1 p2 g1 g2 s1 s2 t1 t2 = (p1 == p2) by rw [V3.out, ct, Bool.true_and]; rw [Bool.eq_iff_iff]; simp)
          have bt := (same_b t1 t2).trans ct
          clear ct V3
          go_enter Try.func10, Try.ntmps10
          go_wp2_with (fail)
          go_quiet ((go_at_call 14; exact HE.out _))
          go_wp2_with (fail)
          go_ret
          exact ⟨retB (by rw [V4.out]), _, rfl⟩
    · rw [decide_eq_false cg] at HE
      have HE := Lib.hid HE
      have V2 := Lib.hid (show sameB k1 k2 p1 p2 g1 g2 s1 s2 t1 t2 = false by rw [V1.out, decide_eq_false cg, Bool.false_and])
      clear cg V1
      go_enter Try.func10, Try.ntmps10
      go_wp2_with (fail)
      go_quiet ((go_at_call 14; exact HE.out _))
      go_wp2_with (fail)
      go_ret
      exact ⟨retB (by rw [V2.out]), _, rfl⟩
  · have bk : (k1 == k2) = false := beq_eq_false_iff_ne.2 ck
    have V1 := Lib.hid (show sameB k1 k2 p1 p2 g1 g2 s1 s2 t1 t2 = false by unfold sameB; rw [decide_eq_false ck, Bool.false_and])
    clear ck HE
    go_enter Try.func10, Try.ntmps10
    go_wp2_with (fail)
    go_quiet ((go_at_call 14; exact HE.out _))
    go_wp2_with (fail)
    go_ret
    exact ⟨retB (by rw [V1.out]), _, rfl⟩
theorem ssamechr_any (k1 k2 p1 p2 : Int) (g1 g2 : List Int) (s1 s2 t1 t2 : ByteArray) (v1 v2 : Value) (w : World) (h1 : IntsAre .i64 w v1 g1) (h2 : IntsAre .i64 w v2 g2) :
    Calls Try.prog 5 #[.agg #[.int .i64 k1, v1, .string s1, .string t1, .int .i64 p1], .agg #[.int .i64 k2, v2, .string s2, .string t2, .int .i64 p2]] w fun e w' => e = .returned (.bool (sameB k1 k2 p1 p2 g1 g2 s1 s2 t1 t2)) ∧ Below w.heap.size w w' := by
  have HS := Lib.hid (fun b1 b2 w' a b => sl05same_any b1 b2 k1 k2 p1 p2 g1 g2 s1 s2 t1 t2 v1 v2 w' a b)
  have H1 := Lib.hid h1
  have H2 := Lib.hid h2
  obtain ⟨b, hb⟩ : ∃ b, b = sameB k1 k2 p1 p2 g1 g2 s1 s2 t1 t2 := ⟨_, rfl⟩
  rw [← hb] at HS ⊢
  clear h1 h2 hb
  go_enter Try.func5, Try.ntmps5
  go_wp2_with (go_at_call 10; (refine (HS.out _ _ _ (H1.out.below ?_) (H2.out.below ?_) ?_ ?_ ?_ ?_ ?_ ?_ ?_ ?_ ?_ ?_).mono ?_); (iterate 2 (· go_grown)); (iterate 10 (· go_cell)); rintro e w1 ⟨rfl, nq, rfl⟩)
  go_ret
  exact ⟨rfl, below_drewN (by go_grown) nq⟩
end Go.Proofs.Ythggoboljkdldaa
