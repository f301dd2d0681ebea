/- Next blasts: the program's. -/
import Derived.Test.YtbfhnfoaipaljaaDoorTimT
namespace Go.Proofs.YtbfhnfoaipaljaaDoor
open Go.ChangeShapes Go.WideShapes Go.ChangeAt Go.RowKit Pm

set_option maxRecDepth 100000 in
set_option maxHeartbeats 1000000 in
theorem nextblast_any (k b p q t : Int) (ea ep eq : Addr) (w : World) (hF : FogsAt w) (hE : FogErrs ea ep eq w) :
    Calls Tryd.prog 32 #[fogV k b p q, .int .i64 t] w (RetT (nextA k b p q t) (askC k b p q t) w) := by
  have HT := fun w' (hb : Below w.heap.size w w') => time_any k b p q t ea ep eq w' (hF.below hb) (hE.below hb)
  by_cases hc : askC k b p q t = 0
  · obtain ⟨ho, t0, t1⟩ := ask_yes hc
    obtain ⟨_, ⟨n, rfl, n0, n1⟩, p0, p1⟩ := ok_facts ho
    obtain ⟨z0, z1⟩ := fogLen_bd k
    have HSO := Lib.hid (fun w' (hb : Below w.heap.size w w') => sounding_any k n p q w' (hF.below hb))
    have HB := Lib.hid (fun w => blasts_any k p q n (fogNm k) (fogLen k) w n0 n1 z0 z1)
    rw [show sinceV k n p q t = t % p by unfold sinceV; rw [if_pos hc], hc] at HT
    have HT := Lib.hid HT
    have HA := Lib.hid (show t - t % p + nxtG (fogLen k) p (t % p) n 0 = nextA k n p q t by unfold nextA; rw [if_pos hc]; rfl)
    rw [hc]
    generalize nextA k n p q t = a at *
    generalize fogLen k = z at *
    generalize fogNm k = sn at *
    have s0 : 0 ≤ t % p := Int.emod_nonneg _ (by omega)
    have s1 : t % p < p := Int.emod_lt_of_pos _ (by omega)
    have s2 : t % p ≤ t := emod_self_le t0 (by omega)
    generalize t % p = s at *
    clear hF hE hc ho
    go_enter Tryd.func32, Tryd.ntmps32
    go_wp2_with (go_at_call 62; (refine (HT.out _ (by go_grown)).mono ?_); rintro e w1 ⟨rfl, hb⟩; refine Hid.out ?_)
    refine Lib.hid ?_
    have c0 := cell_below (a := ⟨w.heap.size, 0, none⟩) (v := .int .i64 k) (by go_cell) hb
    have c1 := cell_below (a := ⟨w.heap.size, 1, none⟩) (v := .int .i64 n) (by go_cell) hb
    have c2 := cell_below (a := ⟨w.heap.size, 2, none⟩) (v := .int .i64 p) (by go_cell) hb
    have c3 := cell_below (a := ⟨w.heap.size, 3, none⟩) (v := .int .i64 q) (by go_cell) hb
    have AC := Lib.hid (Below.next (a := w) (by go_grown) hb)
    clear hb
    go_wp2_with (go_at_call 49; (refine (HSO.out _ AC.out).mono ?_); rintro e w2 ⟨rfl, hb⟩; refine Hid.out ?_)
    refine Lib.hid ?_
    replace c0 := cell_below c0 hb
    replace c1 := cell_below c1 hb
    replace c2 := cell_below c2 hb
    replace c3 := cell_below c3 hb
    replace AC := Lib.hid (Below.next AC.out hb)
    clear hb
    go_wp2_with (go_at_call 57; (refine (HB.out _).mono ?_); rintro e w3 ⟨v, rfl, hr, hb⟩; refine Hid.out ?_)
    refine Lib.hid ?_
    replace c2 := cell_below c2 hb
    replace AC := Lib.hid (Below.next AC.out hb)
    clear hb
    obtain ⟨g, cap, bs, ev, hr2⟩ : ∃ g cap bs, v = .slice (some ⟨g, 0, none⟩) n cap ∧ Rows2 w3 w2.heap.size g bs n (blastF z) := by
      rcases hr with ⟨e, _⟩ | ⟨_, g, cap, bs, e, h⟩
      · omega
      · exact ⟨g, cap, bs, e, h⟩
    clear hr
    subst ev
    have R := Lib.hid hr2
    clear hr2 c0 c1 c3
    go_wp2_with (fail)
    go_loopw [27] (fun i wr => ∃ j : Nat, j ≤ n ∧ i = .int .i64 j ∧ nxtG z p s n 0 = nxtG z p s (n - j) j ∧ w3 = wr) (fun i _ => n - (intOf i).toNat)
    case atStart => exact ⟨0, Nat.zero_le _, rfl, rfl, by first | rfl | trivial⟩
    case round =>
      obtain ⟨j, hj, rfl, hs, rfl⟩ := hrel
      have HS := Lib.hid hs
      clear hs
      by_cases hlt : j < n
      · have hkn : (j : Int) < (n : Int) := by omega
        have d0 := R.out.cell j hlt
        have r0 := (R.out.val j hlt).c0
        have HST := Lib.hid (show nxtG z p s n 0 = if s ≤ (blastF z j).1 then (blastF z j).1 else nxtG z p s (n - (j + 1)) (j + 1) by rw [HS.out, show n - j = n - (j + 1) + 1 by omega]; rfl)
        have hbd : 0 ≤ (blastF z j).1 ∧ (blastF z j).1 ≤ 480 := by
          have : j = 0 ∨ j = 1 ∨ j = 2 ∨ j = 3 ∨ j = 4 ∨ j = 5 := by omega
          simp only [blastF]
          constructor <;> rcases this with rfl | rfl | rfl | rfl | rfl | rfl <;> simp <;> omega
        generalize (blastF z j).1 = x at *
        generalize bs j = y at d0 r0
        clear HS
        by_cases hx : s ≤ x
        · have HA2 := Lib.hid (show t - s + x = a by rw [← HA.out, HST.out, if_pos hx])
          have ew : IntKind.i64.wrap (t - s + x) = t - s + x := IntWalk.i64_in _ ⟨by omega, by omega⟩
          clear HST
          go_wp2
          go_ret2
          exact ⟨retII HA2.out rfl, AC.out⟩
        · have HN := Lib.hid (show nxtG z p s n 0 = nxtG z p s (n - (j + 1)) (j + 1) by rw [HST.out, if_neg hx])
          clear HST
          go_wp2
          go_roundw
          case rel => exact ⟨j + 1, by omega, by go_num, HN.out, by first | rfl | trivial⟩
          case measure => simp [intOf]; omega
      · obtain rfl : j = n := by omega
        have HA2 := Lib.hid (show t - s + p = a by rw [← HA.out, HS.out, Nat.sub_self]; rfl)
        have ew : IntKind.i64.wrap (t - s + p) = t - s + p := IntWalk.i64_in _ ⟨by omega, by omega⟩
        clear HS
        go_wp2
        go_ret2
        exact ⟨retII HA2.out rfl, AC.out⟩

  · have hs : sinceV k b p q t = 0 := by unfold sinceV; rw [if_neg hc]
    rw [hs] at HT
    rw [show nextA k b p q t = 0 by unfold nextA; rw [if_neg hc]]
    generalize askC k b p q t = c at *
    have HT := Lib.hid HT
    have hcb : (c == 0) = false := by rw [beq_eq_false_iff_ne]; exact hc
    clear hF hE
    go_enter Tryd.func32, Tryd.ntmps32
    go_wp2_with (go_at_call 62; (refine (HT.out _ (by go_grown)).mono ?_); rintro e w1 ⟨rfl, hb⟩; have AC := Lib.hid (Below.next (a := w) (by go_grown) hb); have ac := AC.out; have hs := ac.size; clear hb)
    go_ret2
    exact ⟨rfl, by go_grown⟩

end Go.Proofs.YtbfhnfoaipaljaaDoor
