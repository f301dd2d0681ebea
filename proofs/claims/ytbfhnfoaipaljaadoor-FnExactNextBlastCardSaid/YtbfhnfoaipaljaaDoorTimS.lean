/- Blasts, times of sounding, next blasts: the model's. -/
import Derived.Test.YtbfhnfoaipaljaaDoorBlsM
import Derived.Test.YtbfhnfoaipaljaaDoorBlsS
namespace Go.Proofs.YtbfhnfoaipaljaaDoor
open Go.ChangeShapes Go.WideShapes Go.ChangeAt Go.RowKit Pm

theorem retBI {a b : Bool} {c d : Int} (h : a = b) (k : c = d) : Ending.returned (.tuple #[.bool a, .int .i64 c]) = .returned (.tuple #[.bool b, .int .i64 d]) := by rw [h, k]

set_option maxRecDepth 100000 in
theorem sblastsof_any (k b p q : Int) (w : World) :
    Calls Tryd.prog 24 #[.agg #[.int .i64 k, .int .i64 b, .int .i64 p, .int .i64 q]] w (RowsRet (rowsN k b p q) (blastF (fogLen k)) (rowsC k b p q) w) := by
  have HV := fun B w' h => sfogok_any B k b p q w' h
  cases h : fogOk k b p q
  · rw [h] at HV
    have HV := Lib.hid HV
    rw [show rowsN k b p q = 0 by unfold rowsN; rw [h]; rfl, show rowsC k b p q = 1 by unfold rowsC; rw [h]; rfl]
    clear h
    go_enter Tryd.func24, Tryd.ntmps24
    go_wp2_with (go_at_call 48; (refine (HV.out _ _ ?_).mono ?_); (· exact ⟨by go_cell, by go_cell, by go_cell, by go_cell⟩); rintro e w1 ⟨rfl, hb⟩; have AC := Lib.hid (Below.next (a := w) (by go_grown) hb); clear hb)
    go_ret2
    exact ⟨_, rfl, .inl ⟨rfl, rfl⟩, AC.out⟩
  · obtain ⟨hk, ⟨n, rfl, n0, n1⟩, _, _⟩ := ok_facts h
    have HB := Lib.hid (fun B w h => sblasts_any B k p q n w n0 n1 hk h)
    rw [h] at HV
    have HV := Lib.hid HV
    rw [show rowsN k n p q = n by unfold rowsN; rw [h]; rfl, show rowsC k n p q = 0 by unfold rowsC; rw [h]; rfl]
    generalize fogLen k = z at *
    clear h hk
    go_enter Tryd.func24, Tryd.ntmps24
    go_wp2_with (go_at_call 48; (refine (HV.out _ _ ?_).mono ?_); (· exact ⟨by go_cell, by go_cell, by go_cell, by go_cell⟩); rintro e w1 ⟨rfl, hb⟩; refine Hid.out ?_)
    refine Lib.hid ?_
    have c0 := cell_below (a := ⟨w.heap.size, 0, none⟩) (v := .int .i64 k) (by go_cell) hb
    have c1 := cell_below (a := ⟨w.heap.size, 1, none⟩) (v := .int .i64 n) (by go_cell) hb
    have c2 := cell_below (a := ⟨w.heap.size, 2, none⟩) (v := .int .i64 p) (by go_cell) hb
    have c3 := cell_below (a := ⟨w.heap.size, 3, none⟩) (v := .int .i64 q) (by go_cell) hb
    have AC := Lib.hid (Below.next (a := w) (by go_grown) hb)
    clear hb
    go_wp2_with (go_at_call 56; (refine (HB.out _ _ ⟨c0, c1, c2, c3⟩).mono ?_); rintro e w2 ⟨v, rfl, hr, hb⟩; refine Hid.out ?_)
    refine Lib.hid ?_
    have HR := Lib.hid (show RowsV w2 w.heap.size v n (blastF z) from hr.mono AC.out.size)
    have AC2 := Lib.hid (Below.next AC.out hb)
    clear hb hr
    go_wp2
    go_ret2
    exact ⟨_, rfl, HR.out, AC2.out⟩

theorem sask_any (Bf : Nat) (k b p q t : Int) (w : World) (hC : FogCells w Bf k b p q) :
    Calls Tryd.prog 61 #[.pointer (some ⟨Bf, 0, none⟩), .int .i64 t] w fun e w' => e = .returned (.int .i64 (askC k b p q t)) ∧ Below w.heap.size w w' := by
  have HV := sfogok_any Bf k b p q w hC
  have HT := Lib.hid (fun w => in_any t 0 1000000000000 w)
  unfold askC
  cases h : fogOk k b p q
  · rw [h] at HV
    have HV := Lib.hid HV
    clear h hC
    go_enter Tryd.func61, Tryd.ntmps61
    go_wp2_with (go_at_call 48; refine HV.out.mono ?_; rintro e w1 ⟨rfl, hb⟩)
    go_ret
    exact ⟨rfl, hb⟩
  · rw [h] at HV
    have HV := Lib.hid HV
    cases h2 : inB 0 1000000000000 [t]
    all_goals
      rw [h2] at HT
      clear h h2 hC
      go_enter Tryd.func61, Tryd.ntmps61
      go_wp2_with (first
        | (go_at_call 48; refine HV.out.mono ?_; rintro e w1 ⟨rfl, hb⟩)
        | (go_at_call 65; (refine (HT.out _).mono ?_); rintro e w2 ⟨rfl, rfl⟩))
      go_ret
      exact ⟨rfl, hb⟩

set_option maxRecDepth 100000 in
set_option maxHeartbeats 1000000 in
theorem ssoundat_any (k b p q t : Int) (w : World) :
    Calls Tryd.prog 29 #[.agg #[.int .i64 k, .int .i64 b, .int .i64 p, .int .i64 q], .int .i64 t] w (RetTB (soundA k b p q t) (askC k b p q t) w) := by
  have HT := fun B w' h => sask_any B k b p q t w' h
  by_cases hc : askC k b p q t = 0
  · obtain ⟨ho, t0, t1⟩ := ask_yes hc
    obtain ⟨hk, ⟨n, rfl, n0, n1⟩, p0, p1⟩ := ok_facts ho
    obtain ⟨z0, z1⟩ := fogLen_bd k
    have HB := Lib.hid (fun B w h => sblasts_any B k p q n w n0 n1 hk h)
    rw [hc] at HT
    have HT := Lib.hid HT
    have HSG := Lib.hid (show sndG (fogLen k) (t % p) n 0 = soundA k n p q t by unfold soundA; rw [if_pos hc]; rfl)
    rw [hc]
    generalize soundA k n p q t = r at *
    generalize fogLen k = z at *
    have et : t.tmod p = t % p := Int.tmod_eq_emod_of_nonneg t0
    have hp0 : ¬ p = 0 := by omega
    have s0 : 0 ≤ t % p := Int.emod_nonneg _ (by omega)
    have s1 : t % p < p := Int.emod_lt_of_pos _ (by omega)
    have s2 : t % p ≤ t := emod_self_le t0 (by omega)
    clear hc ho hk
    go_enter Tryd.func29, Tryd.ntmps29
    go_wp2_with (go_at_call 61; (refine (HT.out _ _ ?_).mono ?_); (· exact ⟨by go_cell, by go_cell, by go_cell, by go_cell⟩); rintro e w1 ⟨rfl, hb⟩; refine Hid.out ?_)
    refine Lib.hid ?_
    have c0 := cell_below (a := ⟨w.heap.size, 0, none⟩) (v := .int .i64 k) (by go_cell) hb
    have c1 := cell_below (a := ⟨w.heap.size, 1, none⟩) (v := .int .i64 n) (by go_cell) hb
    have c2 := cell_below (a := ⟨w.heap.size, 2, none⟩) (v := .int .i64 p) (by go_cell) hb
    have c3 := cell_below (a := ⟨w.heap.size, 3, none⟩) (v := .int .i64 q) (by go_cell) hb
    have AC := Lib.hid (Below.next (a := w) (by go_grown) hb)
    clear hb
    go_wp2_with (go_at_call 56; (refine (HB.out _ _ ⟨c0, c1, c2, c3⟩).mono ?_); rintro e w3 ⟨v, rfl, hr, hb⟩; refine Hid.out ?_)
    refine Lib.hid ?_
    replace c2 := cell_below c2 hb
    replace AC := Lib.hid (Below.next AC.out hb)
    clear hb
    obtain ⟨g, cap, bs, ev, hr2⟩ : ∃ g cap bs, v = .slice (some ⟨g, 0, none⟩) n cap ∧ Rows2 w3 w1.heap.size g bs n (blastF z) := by
      rcases hr with ⟨e, _⟩ | ⟨_, g, cap, bs, e, h⟩
      · omega
      · exact ⟨g, cap, bs, e, h⟩
    clear hr
    subst ev
    have R := Lib.hid hr2
    clear hr2 c0 c1 c3
    go_wp2_with (fail)
    go_loopw [8] (fun i wr => ∃ j : Nat, j ≤ n ∧ i = .int .i64 j ∧ sndG z (t % p) n 0 = sndG z (t % p) (n - j) j ∧ w3 = wr) (fun i _ => n - (intOf i).toNat)
    case atStart => exact ⟨0, Nat.zero_le _, rfl, rfl, by first | rfl | trivial⟩
    case round =>
      obtain ⟨j, hj, rfl, hs, rfl⟩ := hrel
      have HS := Lib.hid hs
      clear hs
      by_cases hlt : j < n
      · have hkn : (j : Int) < (n : Int) := by omega
        have d0 := R.out.cell j hlt
        have r0 := (R.out.val j hlt).c0
        have r1 := (R.out.val j hlt).c1
        have HST := Lib.hid (show sndG z (t % p) n 0 = (hitB z (t % p) j || sndG z (t % p) (n - (j + 1)) (j + 1)) by rw [HS.out, show n - j = n - (j + 1) + 1 by omega]; rfl)
        have HH := Lib.hid (show hitB z (t % p) j = (decide ((blastF z j).1 ≤ t % p) && decide (t % p < (blastF z j).2)) from rfl)
        generalize (blastF z j).1 = x at *
        generalize (blastF z j).2 = x2 at *
        generalize bs j = y at d0 r0 r1
        clear HS
        generalize t % p = s at *
        by_cases hx : x ≤ s
        · by_cases hx2 : s < x2
          · have HR := Lib.hid (show true = r by rw [← HSG.out, HST.out, HH.out, decide_eq_true hx, decide_eq_true hx2]; rfl)
            clear HST HH
            go_wp2
            go_ret2
            exact ⟨retBI HR.out rfl, AC.out⟩
          · have HN := Lib.hid (show sndG z s n 0 = sndG z s (n - (j + 1)) (j + 1) by rw [HST.out, HH.out, decide_eq_false hx2, Bool.and_false]; rfl)
            clear HST HH
            go_wp2
            go_roundw
            case rel => exact ⟨j + 1, by omega, by go_num, HN.out, by first | rfl | trivial⟩
            case measure => simp [intOf]; omega
        · have HN := Lib.hid (show sndG z s n 0 = sndG z s (n - (j + 1)) (j + 1) by rw [HST.out, HH.out, decide_eq_false hx]; rfl)
          clear HST HH
          go_wp2
          go_roundw
          case rel => exact ⟨j + 1, by omega, by go_num, HN.out, by first | rfl | trivial⟩
          case measure => simp [intOf]; omega
      · obtain rfl : j = n := by omega
        have HR := Lib.hid (show false = r by rw [← HSG.out, HS.out, Nat.sub_self]; rfl)
        clear HS
        go_wp2
        go_ret2
        exact ⟨retBI HR.out rfl, AC.out⟩
  · rw [show soundA k b p q t = false by unfold soundA; rw [if_neg hc]]
    generalize askC k b p q t = c at *
    have HT := Lib.hid HT
    have hcb : (c == 0) = false := by rw [beq_eq_false_iff_ne]; exact hc
    go_enter Tryd.func29, Tryd.ntmps29
    go_wp2_with (go_at_call 61; (refine (HT.out _ _ ?_).mono ?_); (· exact ⟨by go_cell, by go_cell, by go_cell, by go_cell⟩); rintro e w1 ⟨rfl, hb⟩; have AC := Lib.hid (Below.next (a := w) (by go_grown) hb); clear hb)
    go_ret2
    exact ⟨rfl, AC.out⟩

set_option maxRecDepth 100000 in
set_option maxHeartbeats 1000000 in
theorem snextblast_any (k b p q t : Int) (w : World) :
    Calls Tryd.prog 31 #[.agg #[.int .i64 k, .int .i64 b, .int .i64 p, .int .i64 q], .int .i64 t] w (RetT (nextA k b p q t) (askC k b p q t) w) := by
  have HT := fun B w' h => sask_any B k b p q t w' h
  by_cases hc : askC k b p q t = 0
  · obtain ⟨ho, t0, t1⟩ := ask_yes hc
    obtain ⟨hk, ⟨n, rfl, n0, n1⟩, p0, p1⟩ := ok_facts ho
    obtain ⟨z0, z1⟩ := fogLen_bd k
    have HB := Lib.hid (fun B w h => sblasts_any B k p q n w n0 n1 hk h)
    rw [hc] at HT
    have HT := Lib.hid HT
    have HA := Lib.hid (show t - t % p + nxtG (fogLen k) p (t % p) n 0 = nextA k n p q t by unfold nextA; rw [if_pos hc]; rfl)
    rw [hc]
    generalize nextA k n p q t = a at *
    generalize fogLen k = z at *
    have et : t.tmod p = t % p := Int.tmod_eq_emod_of_nonneg t0
    have hp0 : ¬ p = 0 := by omega
    have s0 : 0 ≤ t % p := Int.emod_nonneg _ (by omega)
    have s1 : t % p < p := Int.emod_lt_of_pos _ (by omega)
    have s2 : t % p ≤ t := emod_self_le t0 (by omega)
    clear hc ho hk
    go_enter Tryd.func31, Tryd.ntmps31
    go_wp2_with (go_at_call 61; (refine (HT.out _ _ ?_).mono ?_); (· exact ⟨by go_cell, by go_cell, by go_cell, by go_cell⟩); rintro e w1 ⟨rfl, hb⟩; refine Hid.out ?_)
    refine Lib.hid ?_
    have c0 := cell_below (a := ⟨w.heap.size, 0, none⟩) (v := .int .i64 k) (by go_cell) hb
    have c1 := cell_below (a := ⟨w.heap.size, 1, none⟩) (v := .int .i64 n) (by go_cell) hb
    have c2 := cell_below (a := ⟨w.heap.size, 2, none⟩) (v := .int .i64 p) (by go_cell) hb
    have c3 := cell_below (a := ⟨w.heap.size, 3, none⟩) (v := .int .i64 q) (by go_cell) hb
    have AC := Lib.hid (Below.next (a := w) (by go_grown) hb)
    clear hb
    go_wp2_with (go_at_call 56; (refine (HB.out _ _ ⟨c0, c1, c2, c3⟩).mono ?_); rintro e w3 ⟨v, rfl, hr, hb⟩; refine Hid.out ?_)
    refine Lib.hid ?_
    replace c2 := cell_below c2 hb
    replace AC := Lib.hid (Below.next AC.out hb)
    clear hb
    obtain ⟨g, cap, bs, ev, hr2⟩ : ∃ g cap bs, v = .slice (some ⟨g, 0, none⟩) n cap ∧ Rows2 w3 w1.heap.size g bs n (blastF z) := by
      rcases hr with ⟨e, _⟩ | ⟨_, g, cap, bs, e, h⟩
      · omega
      · exact ⟨g, cap, bs, e, h⟩
    clear hr
    subst ev
    have R := Lib.hid hr2
    clear hr2 c0 c1 c3
    go_wp2_with (fail)
    go_loopw [9] (fun i wr => ∃ j : Nat, j ≤ n ∧ i = .int .i64 j ∧ nxtG z p (t % p) n 0 = nxtG z p (t % p) (n - j) j ∧ w3 = wr) (fun i _ => n - (intOf i).toNat)
    case atStart => exact ⟨0, Nat.zero_le _, rfl, rfl, by first | rfl | trivial⟩
    case round =>
      obtain ⟨j, hj, rfl, hs, rfl⟩ := hrel
      have HS := Lib.hid hs
      clear hs
      by_cases hlt : j < n
      · have hkn : (j : Int) < (n : Int) := by omega
        have d0 := R.out.cell j hlt
        have r0 := (R.out.val j hlt).c0
        have HST := Lib.hid (show nxtG z p (t % p) n 0 = if t % p ≤ (blastF z j).1 then (blastF z j).1 else nxtG z p (t % p) (n - (j + 1)) (j + 1) by rw [HS.out, show n - j = n - (j + 1) + 1 by omega]; rfl)
        have hbd : 0 ≤ (blastF z j).1 ∧ (blastF z j).1 ≤ 480 := by
          have : j = 0 ∨ j = 1 ∨ j = 2 ∨ j = 3 ∨ j = 4 ∨ j = 5 := by omega
          simp only [blastF]
          constructor <;> rcases this with rfl | rfl | rfl | rfl | rfl | rfl <;> simp <;> omega
        generalize (blastF z j).1 = x at *
        generalize bs j = y at d0 r0
        clear HS
        generalize t % p = s at *
        have ew : IntKind.i64.wrap (t - s + x) = t - s + x := IntWalk.i64_in _ ⟨by omega, by omega⟩
        by_cases hx : s ≤ x
        · have HA2 := Lib.hid (show t - s + x = a by rw [← HA.out, HST.out, if_pos hx])
          have hx2 : t ≤ t - s + x := by omega
          clear HST
          go_wp2
          go_ret2
          exact ⟨retII HA2.out rfl, AC.out⟩
        · have HN := Lib.hid (show nxtG z p s n 0 = nxtG z p s (n - (j + 1)) (j + 1) by rw [HST.out, if_neg hx])
          have hx2 : ¬ t ≤ t - s + x := by omega
          clear HST
          go_wp2
          go_roundw
          case rel => exact ⟨j + 1, by omega, by go_num, HN.out, by first | rfl | trivial⟩
          case measure => simp [intOf]; omega
      · obtain rfl : j = n := by omega
        have HA2 := Lib.hid (show t - t % p + p = a by rw [← HA.out, HS.out, Nat.sub_self]; rfl)
        generalize t % p = s at *
        have ew : IntKind.i64.wrap (t - s + p) = t - s + p := IntWalk.i64_in _ ⟨by omega, by omega⟩
        clear HS
        go_wp2
        go_ret2
        exact ⟨retII HA2.out rfl, AC.out⟩
  · rw [show nextA k b p q t = 0 by unfold nextA; rw [if_neg hc]]
    generalize askC k b p q t = c at *
    have HT := Lib.hid HT
    have hcb : (c == 0) = false := by rw [beq_eq_false_iff_ne]; exact hc
    go_enter Tryd.func31, Tryd.ntmps31
    go_wp2_with (go_at_call 61; (refine (HT.out _ _ ?_).mono ?_); (· exact ⟨by go_cell, by go_cell, by go_cell, by go_cell⟩); rintro e w1 ⟨rfl, hb⟩; have AC := Lib.hid (Below.next (a := w) (by go_grown) hb); clear hb)
    go_ret2
    exact ⟨rfl, AC.out⟩

end Go.Proofs.YtbfhnfoaipaljaaDoor
