/- Blasts, times of sounding, next blasts: the program's. Times of sounding and next blasts: the program's. The blast in which a time falls: the program's search. Next blasts: the program's. Times of sounding: the program's. -/
import Derived.Test.YthheacebafleeacGreatDoorBlsM
import Derived.Test.YthheacebafleeacGreatDoorBlsI
import Derived.LoopTactic
import Derived.Shelf.Abstract
namespace Go.Proofs.YthheacebafleeacGreatDoor
open Go.ChangeShapes Go.WideShapes Go.ChangeAt Go.RowKit Pm

set_option maxRecDepth 100000 in
set_option maxHeartbeats 1000000 in
theorem blastsof_any (k b p q : Int) (ea ep eq : Addr) (w : World) (hF : FogsAt w) (hE : FogErrs ea ep eq w) :
    Calls Tryz.prog 8 #[fogV k b p q] w (RowsRet (rowsN k b p q) (blastF (fogLen k)) (rowsC k b p q) w) := by
  cases h : fogOk k b p q
  · have HV := Lib.hid (fun w' (hb : Below w.heap.size w w') => h ▸ validfog_any k b p q ea ep eq w' (hF.below hb) (hE.below hb))
    rw [show rowsN k b p q = 0 by unfold rowsN; rw [h]; rfl, show rowsC k b p q = 1 by unfold rowsC; rw [h]; rfl]
    clear h hF hE
    go_enter Tryz.func8, Tryz.ntmps8
    go_wp2_with (go_at_call 22; (refine (HV.out _ (by go_grown)).mono ?_); rintro e w1 ⟨rfl, hb⟩; have AC := Lib.hid (Below.next (a := w) (by go_grown) hb); clear hb)
    go_ret2
    exact ⟨_, rfl, .inl ⟨rfl, rfl⟩, AC.out⟩
  · obtain ⟨hk, ⟨n, rfl, n0, n1⟩, _, _⟩ := ok_facts h
    obtain ⟨z0, z1⟩ := fogLen_bd k
    have HV := Lib.hid (fun w' (hb : Below w.heap.size w w') => h ▸ validfog_any k n p q ea ep eq w' (hF.below hb) (hE.below hb))
    have HS := Lib.hid (fun w' (hb : Below w.heap.size w w') => sounding_any k n p q w' (hF.below hb))
    rw [show rowsN k n p q = n by unfold rowsN; rw [h]; rfl, show rowsC k n p q = 0 by unfold rowsC; rw [h]; rfl]
    have HB := Lib.hid (fun w => blasts_any k p q n (fogNm k) (fogLen k) w n0 n1 z0 z1)
    generalize fogNm k = s at *
    generalize fogLen k = z at *
    clear h hF hE hk
    go_enter Tryz.func8, Tryz.ntmps8
    go_wp2_with (go_at_call 22; (refine (HV.out _ (by go_grown)).mono ?_); rintro e w1 ⟨rfl, hb⟩; refine Hid.out ?_)
    refine Lib.hid ?_
    have c0 := cell_below (a := ⟨w.heap.size, 0, none⟩) (v := .int .i64 k) (by go_cell) hb
    have c1 := cell_below (a := ⟨w.heap.size, 1, none⟩) (v := .int .i64 n) (by go_cell) hb
    have c2 := cell_below (a := ⟨w.heap.size, 2, none⟩) (v := .int .i64 p) (by go_cell) hb
    have c3 := cell_below (a := ⟨w.heap.size, 3, none⟩) (v := .int .i64 q) (by go_cell) hb
    have AC := Lib.hid (Below.next (a := w) (by go_grown) hb)
    clear hb
    go_wp2_with (go_at_call 18; (refine (HS.out _ AC.out).mono ?_); rintro e w2 ⟨rfl, hb⟩; refine Hid.out ?_)
    refine Lib.hid ?_
    have AC2 := Lib.hid (Below.next AC.out hb)
    clear hb
    go_wp2_with (go_at_call 19; (refine (HB.out _).mono ?_); rintro e w3 ⟨v, rfl, hr, hb⟩; refine Hid.out ?_)
    refine Lib.hid ?_
    have HR := Lib.hid (show RowsV w3 w.heap.size v n (blastF z) from hr.mono AC2.out.size)
    have AC3 := Lib.hid (Below.next AC2.out hb)
    clear hb hr
    go_wp2
    go_ret2
    exact ⟨_, rfl, HR.out, AC3.out⟩
end Go.Proofs.YthheacebafleeacGreatDoor
namespace Go.Proofs.YthheacebafleeacGreatDoor
open Go.ChangeShapes Go.WideShapes Go.ChangeAt Go.RowKit Pm

set_option maxRecDepth 100000 in
theorem time_any (k b p q t : Int) (ea ep eq : Addr) (w : World) (hF : FogsAt w) (hE : FogErrs ea ep eq w) :
    Calls Tryz.prog 17 #[fogV k b p q, .int .i64 t] w (RetT (sinceV k b p q t) (askC k b p q t) w) := by
  unfold sinceV
  cases h : fogOk k b p q
  · rw [show askC k b p q t = 1 by unfold askC; rw [h]; rfl, if_neg (by decide)]
    have HV := Lib.hid (fun w' (hb : Below w.heap.size w w') => h ▸ validfog_any k b p q ea ep eq w' (hF.below hb) (hE.below hb))
    clear h hF hE
    go_enter Tryz.func17, Tryz.ntmps17
    go_wp2_with (go_at_call 22; (refine (HV.out _ (by go_grown)).mono ?_); rintro e w1 ⟨rfl, hb⟩; have AC := Lib.hid (Below.next (a := w) (by go_grown) hb); clear hb)
    go_ret2
    exact ⟨rfl, AC.out⟩
  · obtain ⟨_, _, p0, p1⟩ := ok_facts h
    have HV := Lib.hid (fun w' (hb : Below w.heap.size w w') => h ▸ validfog_any k b p q ea ep eq w' (hF.below hb) (hE.below hb))
    cases h2 : inB 0 1000000000000 [t]
    · rw [show askC k b p q t = 2 by unfold askC; rw [h, h2]; rfl, if_neg (by decide)]
      have HW := Lib.hid (fwithin t 0 1000000000000 false h2)
      clear h h2 hF hE p0 p1
      go_enter Tryz.func17, Tryz.ntmps17
      go_wp2_with (first
        | (go_at_call 22; (refine (HV.out _ (by go_grown)).mono ?_); rintro e w1 ⟨rfl, hb⟩; have AC := Lib.hid (Below.next (a := w) (by go_grown) hb); have ac := AC.out; have hs := ac.size; clear hb)
        | (go_at_call 36; (refine (HW.out _ _ ?_).mono ?_); (· simp); rintro e w2 ⟨rfl, rfl⟩))
      go_ret2
      exact ⟨rfl, by go_grown⟩
    · obtain ⟨t0, t1⟩ := inb_yes h2
      rw [show askC k b p q t = 0 by unfold askC; rw [h, h2]; rfl, if_pos rfl]
      have HW := Lib.hid (fwithin t 0 1000000000000 true h2)
      have et : t.tmod p = t % p := Int.tmod_eq_emod_of_nonneg t0
      have hp0 : ¬ p = 0 := by omega
      clear h h2 hF hE
      go_enter Tryz.func17, Tryz.ntmps17
      go_wp2_with (go_at_call 22; (refine (HV.out _ (by go_grown)).mono ?_); rintro e w1 ⟨rfl, hb⟩; refine Hid.out ?_)
      refine Lib.hid ?_
      have c2 := cell_below (a := ⟨w.heap.size, 2, none⟩) (v := .int .i64 p) (by go_cell) hb
      have hz : w.heap.size < w1.heap.size := by have := hb.size; simp at this; omega
      have ac := Below.next (a := w) (by go_grown) hb
      clear hb
      go_wp2_with (go_at_call 36; (refine (HW.out _ _ ?_).mono ?_); (· simp); rintro e w2 ⟨rfl, rfl⟩)
      go_ret2
      exact ⟨rfl, by go_grown⟩

end Go.Proofs.YthheacebafleeacGreatDoor
namespace Go.Proofs.YthheacebafleeacGreatDoor
open Go.ChangeShapes Go.WideShapes Go.ChangeAt Go.RowKit Pm

theorem soundclos (z s : Int) (i b bz : Nat) (W : World) (hr : Row2 W b (blastF z i).1 (blastF z i).2) (cz : W.cell? ⟨bz, 0, none⟩ = some (.int .i64 s)) :
    Calls Tryz.prog 21 (#[rowV b] ++ #[.pointer (some ⟨bz, 0, none⟩)]) W fun e w' => e = .returned (.bool (hitB z s i)) ∧ Below W.heap.size W w' := by
  have r0 := hr.c0
  have r1 := hr.c1
  unfold hitB rowV
  generalize (blastF z i).1 = x at *
  generalize (blastF z i).2 = y at *
  have b0 : Below W.heap.size W W := Below.refl _ _
  clear hr
  by_cases h : x ≤ s
  all_goals
    first
      | (have hd : decide (x ≤ s) = true := decide_eq_true h)
      | (have hd : decide (x ≤ s) = false := decide_eq_false h)
    go_enter Tryz.func21, Tryz.ntmps21
    go_wp2
    obtain ⟨S, hcl, hS0, k0, k1, k2, k3, kB⟩ := clx4 r0 r1 cz cz b0
    have hne : Nonempty (Clx S) := ⟨⟨_, hS0⟩⟩
    clear r0 r1 cz b0
    refine wp_region_clx S (by kernel_rfl) (by kernel_rfl) hS0 ?_
    repeat (go_big_quiet_step (fail))
    refine wpQuiet_nil ?_
    intro _ hw'
    obtain ⟨p, rfl⟩ := hw'
    go_wp2_with (fail)
    go_ret
    exact ⟨retB (by simp [hd]), kB p⟩

set_option maxHeartbeats 1000000 in
theorem rowindex_any (z s : Int) (n g cap bz : Nat) (bs : Nat → Nat) (B : Nat) (W : World) (hr : Rows2 W B g bs n (blastF z)) (cz : W.cell? ⟨bz, 0, none⟩ = some (.int .i64 s)) (hn : n ≤ 6) :
    Calls Tryz.prog 44 #[.slice (some ⟨g, 0, none⟩) n cap, .func (.func 21) #[] #[.pointer (some ⟨bz, 0, none⟩)]] W fun e w' => ∃ r : Int, e = .returned (.int .i64 r) ∧ decide (0 ≤ r) = sndG z s n 0 ∧ Below W.heap.size W w' := by
  have eg : ∀ args w, (callFunc 21 args).run Tryz.prog w = .ok (.enter 21 args) w := enters_of Tryz.func21 (by kernel_rfl) rfl
  have R := Lib.hid hr
  clear hr
  go_enter Tryz.func44, Tryz.ntmps44
  go_wp2_with (fail)
  go_loopw [8] (fun i wr => ∃ j : Nat, j ≤ n ∧ i = .int .i64 j ∧ sndG z s n 0 = sndG z s (n - j) j ∧ Below W.heap.size W wr) (fun i _ => n - (intOf i).toNat)
  case atStart => exact ⟨0, Nat.zero_le _, rfl, rfl, Below.refl _ _⟩
  case round =>
    obtain ⟨j, hj, rfl, hs, hbel⟩ := hrel
    have HS := Lib.hid hs
    have HB := Lib.hid hbel
    clear hs
    by_cases hlt : j < n
    · have hkn : (j : Int) < (n : Int) := by omega
      have c0 := cell_below (R.out.cell j hlt) hbel
      have hv := (R.out.val j hlt).below hbel
      have HC := soundclos z s j (bs j) bz wr hv (cell_below cz hbel)
      have HST := Lib.hid (show sndG z s n 0 = (hitB z s j || sndG z s (n - (j + 1)) (j + 1)) by rw [HS.out, show n - j = n - (j + 1) + 1 by omega]; rfl)
      unfold rowV at HC
      generalize bs j = x at c0 HC
      clear hv hbel HS
      cases hh : hitB z s j
      · rw [hh] at HC
        have HN := Lib.hid (show sndG z s n 0 = sndG z s (n - (j + 1)) (j + 1) by rw [HST.out, hh]; rfl)
        have HC := Lib.hid HC
        clear hh HST
        go_wp2_with (go_at_fn 21; refine HC.out.mono ?_; rintro e w1 ⟨rfl, hb⟩; have HB2 := Lib.hid (Below.next HB.out hb); clear hb)
        go_roundw
        case rel => exact ⟨j + 1, by omega, by go_num, HN.out, HB2.out⟩
        case measure => simp [intOf]; omega
      · rw [hh] at HC
        have HN := Lib.hid (show decide (0 ≤ (j : Int)) = sndG z s n 0 by rw [HST.out, hh]; simp)
        have HC := Lib.hid HC
        clear hh HST
        go_wp2_with (go_at_fn 21; refine HC.out.mono ?_; rintro e w1 ⟨rfl, hb⟩; have HB2 := Lib.hid (Below.next HB.out hb); clear hb)
        go_ret
        exact ⟨_, rfl, HN.out, HB2.out⟩
    · obtain rfl : j = n := by omega
      have HN := Lib.hid (show decide (0 ≤ (-1 : Int)) = sndG z s j 0 by rw [HS.out, Nat.sub_self]; rfl)
      clear hbel
      go_wp2
      go_ret
      exact ⟨_, rfl, HN.out, HB.out⟩
theorem rowcontains_any (z s : Int) (n g cap bz : Nat) (bs : Nat → Nat) (B : Nat) (W : World) (hr : Rows2 W B g bs n (blastF z)) (cz : W.cell? ⟨bz, 0, none⟩ = some (.int .i64 s)) (hn : n ≤ 6) :
    Calls Tryz.prog 20 #[.slice (some ⟨g, 0, none⟩) n cap, .func (.func 21) #[] #[.pointer (some ⟨bz, 0, none⟩)]] W fun e w' => e = .returned (.bool (sndG z s n 0)) ∧ Below W.heap.size W w' := by
  have HI := Lib.hid (rowindex_any z s n g cap bz bs B W hr cz hn)
  generalize sndG z s n 0 = r at *
  clear hr cz
  go_enter Tryz.func20, Tryz.ntmps20
  go_wp2_with (go_at_call 44; refine HI.out.mono ?_; rintro e w1 ⟨i, rfl, hi, hb⟩; have HR := Lib.hid hi; clear hi)
  go_ret
  exact ⟨retB HR.out, hb⟩

end Go.Proofs.YthheacebafleeacGreatDoor
namespace Go.Proofs.YthheacebafleeacGreatDoor
open Go.ChangeShapes Go.WideShapes Go.ChangeAt Go.RowKit Pm

set_option maxRecDepth 100000 in
set_option maxHeartbeats 1000000 in
theorem nextblast_any (k b p q t : Int) (ea ep eq : Addr) (w : World) (hF : FogsAt w) (hE : FogErrs ea ep eq w) :
    Calls Tryz.prog 6 #[fogV k b p q, .int .i64 t] w (RetT (nextA k b p q t) (askC k b p q t) w) := by
  have HT := fun w' (hb : Below w.heap.size w w') => time_any k b p q t ea ep eq w' (hF.below hb) (hE.below hb)
  by_cases hc : askC k b p q t = 0
  · obtain ⟨ho, t0, t1⟩ := ask_yes hc
    obtain ⟨_, ⟨n, rfl, n0, n1⟩, p0, p1⟩ := ok_facts ho
    obtain ⟨z0, z1⟩ := fogLen_bd k
    have HSO := Lib.hid (fun w' (hb : Below w.heap.size w w') => sounding_any k n p q w' (hF.below hb))
    have HB := Lib.hid (fun w => blasts_any k p q n (fogNm k) (fogLen k) w n0 n1 z0 z1)
    rw [show sinceV k n p q t = t % p by unfold sinceV; rw [if_pos hc], hc] at HT
    have HT := Lib.hid HT
    have HA := Lib.hid (show t - t % p + nxtG (fogLen k) p (t % p) n 0 = nextA k n p q t by unfold nextA; rw [if_pos hc]; rfl)
    rw [hc]
    generalize nextA k n p q t = a at *
    generalize fogLen k = z at *
    generalize fogNm k = sn at *
    have s0 : 0 ≤ t % p := Int.emod_nonneg _ (by omega)
    have s1 : t % p < p := Int.emod_lt_of_pos _ (by omega)
    have s2 : t % p ≤ t := emod_self_le t0 (by omega)
    generalize t % p = s at *
    clear hF hE hc ho
    go_enter Tryz.func6, Tryz.ntmps6
    go_wp2_with (go_at_call 17; (refine (HT.out _ (by go_grown)).mono ?_); rintro e w1 ⟨rfl, hb⟩; refine Hid.out ?_)
    refine Lib.hid ?_
    have c0 := cell_below (a := ⟨w.heap.size, 0, none⟩) (v := .int .i64 k) (by go_cell) hb
    have c1 := cell_below (a := ⟨w.heap.size, 1, none⟩) (v := .int .i64 n) (by go_cell) hb
    have c2 := cell_below (a := ⟨w.heap.size, 2, none⟩) (v := .int .i64 p) (by go_cell) hb
    have c3 := cell_below (a := ⟨w.heap.size, 3, none⟩) (v := .int .i64 q) (by go_cell) hb
    have AC := Lib.hid (Below.next (a := w) (by go_grown) hb)
    clear hb
    go_wp2_with (go_at_call 18; (refine (HSO.out _ AC.out).mono ?_); rintro e w2 ⟨rfl, hb⟩; refine Hid.out ?_)
    refine Lib.hid ?_
    replace c0 := cell_below c0 hb
    replace c1 := cell_below c1 hb
    replace c2 := cell_below c2 hb
    replace c3 := cell_below c3 hb
    replace AC := Lib.hid (Below.next AC.out hb)
    clear hb
    go_wp2_with (go_at_call 19; (refine (HB.out _).mono ?_); rintro e w3 ⟨v, rfl, hr, hb⟩; refine Hid.out ?_)
    refine Lib.hid ?_
    replace c2 := cell_below c2 hb
    replace AC := Lib.hid (Below.next AC.out hb)
    clear hb
    obtain ⟨g, cap, bs, ev, hr2⟩ : ∃ g cap bs, v = .slice (some ⟨g, 0, none⟩) n cap ∧ Rows2 w3 w2.heap.size g bs n (blastF z) := by
      rcases hr with ⟨e, _⟩ | ⟨_, g, cap, bs, e, h⟩
      · omega
      · exact ⟨g, cap, bs, e, h⟩
    clear hr
    subst ev
    have R := Lib.hid hr2
    clear hr2 c0 c1 c3
    go_wp2_with (fail)
    go_loopw [27] (fun i wr => ∃ j : Nat, j ≤ n ∧ i = .int .i64 j ∧ nxtG z p s n 0 = nxtG z p s (n - j) j ∧ w3 = wr) (fun i _ => n - (intOf i).toNat)
    case atStart => exact ⟨0, Nat.zero_le _, rfl, rfl, by first | rfl | trivial⟩
    case round =>
      obtain ⟨j, hj, rfl, hs, rfl⟩ := hrel
      have HS := Lib.hid hs
      clear hs
      by_cases hlt : j < n
      · have hkn : (j : Int) < (n : Int) := by omega
        have d0 := R.out.cell j hlt
        have r0 := (R.out.val j hlt).c0
        have HST := Lib.hid (show nxtG z p s n 0 = if s ≤ (blastF z j).1 then (blastF z j).1 else nxtG z p s (n - (j + 1)) (j + 1) by rw [HS.out, show n - j = n - (j + 1) + 1 by omega]; rfl)
        have hbd : 0 ≤ (blastF z j).1 ∧ (blastF z j).1 ≤ 480 := by
          have : j = 0 ∨ j = 1 ∨ j = 2 ∨ j = 3 ∨ j = 4 ∨ j = 5 := by omega
          simp only [blastF]
          constructor <;> rcases this with rfl | rfl | rfl | rfl | rfl | rfl <;> simp <;> omega
        generalize (blastF z j).1 = x at *
        generalize bs j = y at d0 r0
        clear HS
        by_cases hx : s ≤ x
        · have HA2 := Lib.hid (show t - s + x = a by rw [← HA.out, HST.out, if_pos hx])
          have ew : IntKind.i64.wrap (t - s + x) = t - s + x := IntWalk.i64_in _ ⟨by omega, by omega⟩
          clear HST
          go_wp2
          go_ret2
          exact ⟨retII HA2.out rfl, AC.out⟩
        · have HN := Lib.hid (show nxtG z p s n 0 = nxtG z p s (n - (j + 1)) (j + 1) by rw [HST.out, if_neg hx])
          clear HST
          go_wp2
          go_roundw
          case rel => exact ⟨j + 1, by omega, by go_num, HN.out, by first | rfl | trivial⟩
          case measure => simp [intOf]; omega
      · obtain rfl : j = n := by omega
        have HA2 := Lib.hid (show t - s + p = a by rw [← HA.out, HS.out, Nat.sub_self]; rfl)
        have ew : IntKind.i64.wrap (t - s + p) = t - s + p := IntWalk.i64_in _ ⟨by omega, by omega⟩
        clear HS
        go_wp2
        go_ret2
        exact ⟨retII HA2.out rfl, AC.out⟩

  · have hs : sinceV k b p q t = 0 := by unfold sinceV; rw [if_neg hc]
    rw [hs] at HT
    rw [show nextA k b p q t = 0 by unfold nextA; rw [if_neg hc]]
    generalize askC k b p q t = c at *
    have HT := Lib.hid HT
    have hcb : (c == 0) = false := by rw [beq_eq_false_iff_ne]; exact hc
    clear hF hE
    go_enter Tryz.func6, Tryz.ntmps6
    go_wp2_with (go_at_call 17; (refine (HT.out _ (by go_grown)).mono ?_); rintro e w1 ⟨rfl, hb⟩; have AC := Lib.hid (Below.next (a := w) (by go_grown) hb); have ac := AC.out; have hs := ac.size; clear hb)
    go_ret2
    exact ⟨rfl, by go_grown⟩

end Go.Proofs.YthheacebafleeacGreatDoor
namespace Go.Proofs.YthheacebafleeacGreatDoor
open Go.ChangeShapes Go.WideShapes Go.ChangeAt Go.RowKit Pm

set_option maxRecDepth 100000 in
set_option maxHeartbeats 1000000 in
theorem soundat_any (k b p q t : Int) (ea ep eq : Addr) (w : World) (hF : FogsAt w) (hE : FogErrs ea ep eq w) :
    Calls Tryz.prog 7 #[fogV k b p q, .int .i64 t] w (RetTB (soundA k b p q t) (askC k b p q t) w) := by
  have HT := fun w' (hb : Below w.heap.size w w') => time_any k b p q t ea ep eq w' (hF.below hb) (hE.below hb)
  by_cases hc : askC k b p q t = 0
  · obtain ⟨ho, t0, t1⟩ := ask_yes hc
    obtain ⟨_, ⟨n, rfl, n0, n1⟩, p0, p1⟩ := ok_facts ho
    obtain ⟨z0, z1⟩ := fogLen_bd k
    have HSO := Lib.hid (fun w' (hb : Below w.heap.size w w') => sounding_any k n p q w' (hF.below hb))
    have HB := Lib.hid (fun w => blasts_any k p q n (fogNm k) (fogLen k) w n0 n1 z0 z1)
    rw [show sinceV k n p q t = t % p by unfold sinceV; rw [if_pos hc], hc] at HT
    have HT := Lib.hid HT
    have HSG := Lib.hid (show sndG (fogLen k) (t % p) n 0 = soundA k n p q t by unfold soundA; rw [if_pos hc]; rfl)
    rw [hc]
    generalize soundA k n p q t = r at *
    generalize fogLen k = z at *
    generalize fogNm k = sn at *
    have s0 : 0 ≤ t % p := Int.emod_nonneg _ (by omega)
    have s1 : t % p < p := Int.emod_lt_of_pos _ (by omega)
    have s2 : t % p ≤ t := emod_self_le t0 (by omega)
    generalize t % p = s at *
    clear hF hE hc ho
    go_enter Tryz.func7, Tryz.ntmps7
    go_wp2_with (go_at_call 17; (refine (HT.out _ (by go_grown)).mono ?_); rintro e w1 ⟨rfl, hb⟩; refine Hid.out ?_)
    refine Lib.hid ?_
    have c0 := cell_below (a := ⟨w.heap.size, 0, none⟩) (v := .int .i64 k) (by go_cell) hb
    have c1 := cell_below (a := ⟨w.heap.size, 1, none⟩) (v := .int .i64 n) (by go_cell) hb
    have c2 := cell_below (a := ⟨w.heap.size, 2, none⟩) (v := .int .i64 p) (by go_cell) hb
    have c3 := cell_below (a := ⟨w.heap.size, 3, none⟩) (v := .int .i64 q) (by go_cell) hb
    have AC := Lib.hid (Below.next (a := w) (by go_grown) hb)
    have hz : w.heap.size < w1.heap.size := by have := hb.size; simp at this; omega
    clear hb
    go_wp2_with (go_at_call 18; (refine (HSO.out _ (AC.out.alloc AC.out.size _)).mono ?_); rintro e w2 ⟨rfl, hb⟩; refine Hid.out ?_)
    refine Lib.hid ?_
    have cs := cell_below (a := ⟨w1.heap.size, 0, none⟩) (v := .int .i64 s) (by go_cell) hb
    have AC2 := Lib.hid (Below.next (AC.out.alloc AC.out.size _) hb)
    clear hb
    go_wp2_with (go_at_call 19; (refine (HB.out _).mono ?_); rintro e w3 ⟨v, rfl, hr, hb⟩; refine Hid.out ?_)
    refine Lib.hid ?_
    replace cs := cell_below cs hb
    replace AC2 := Lib.hid (Below.next AC2.out hb)
    clear hb
    obtain ⟨g, cap, bs, ev, hr2⟩ : ∃ g cap bs, v = .slice (some ⟨g, 0, none⟩) n cap ∧ Rows2 w3 w2.heap.size g bs n (blastF z) := by
      rcases hr with ⟨e, _⟩ | ⟨_, g, cap, bs, e, h⟩
      · omega
      · exact ⟨g, cap, bs, e, h⟩
    clear hr
    subst ev
    have HCF := Lib.hid (rowcontains_any z s n g cap w1.heap.size bs _ w3 hr2 cs n1)
    rw [HSG.out] at HCF
    clear hr2 cs
    go_wp2_with (go_at_call 20; refine HCF.out.mono ?_; rintro e w4 ⟨rfl, hb⟩; have AC3 := Lib.hid (Below.next AC2.out hb); clear hb)
    go_ret2
    exact ⟨rfl, AC3.out⟩

  · have hs : sinceV k b p q t = 0 := by unfold sinceV; rw [if_neg hc]
    rw [hs] at HT
    rw [show soundA k b p q t = false by unfold soundA; rw [if_neg hc]]
    generalize askC k b p q t = c at *
    have HT := Lib.hid HT
    have hcb : (c == 0) = false := by rw [beq_eq_false_iff_ne]; exact hc
    clear hF hE
    go_enter Tryz.func7, Tryz.ntmps7
    go_wp2_with (go_at_call 17; (refine (HT.out _ (by go_grown)).mono ?_); rintro e w1 ⟨rfl, hb⟩; have AC := Lib.hid (Below.next (a := w) (by go_grown) hb); have ac := AC.out; have hs := ac.size; clear hb)
    go_ret2
    exact ⟨rfl, by go_grown⟩

end Go.Proofs.YthheacebafleeacGreatDoor
