/- Times of sounding: the program's. -/
import Derived.Test.YtbfhnfoaipaljaaDoorTimT
import Derived.Test.YtbfhnfoaipaljaaDoorTimC
namespace Go.Proofs.YtbfhnfoaipaljaaDoor
open Go.ChangeShapes Go.WideShapes Go.ChangeAt Go.RowKit Pm

set_option maxRecDepth 100000 in
set_option maxHeartbeats 1000000 in
theorem soundat_any (k b p q t : Int) (ea ep eq : Addr) (w : World) (hF : FogsAt w) (hE : FogErrs ea ep eq w) :
    Calls Tryd.prog 30 #[fogV k b p q, .int .i64 t] w (RetTB (soundA k b p q t) (askC k b p q t) w) := by
  have HT := fun w' (hb : Below w.heap.size w w') => time_any k b p q t ea ep eq w' (hF.below hb) (hE.below hb)
  by_cases hc : askC k b p q t = 0
  · obtain ⟨ho, t0, t1⟩ := ask_yes hc
    obtain ⟨_, ⟨n, rfl, n0, n1⟩, p0, p1⟩ := ok_facts ho
    obtain ⟨z0, z1⟩ := fogLen_bd k
    have HSO := Lib.hid (fun w' (hb : Below w.heap.size w w') => sounding_any k n p q w' (hF.below hb))
    have HB := Lib.hid (fun w => blasts_any k p q n (fogNm k) (fogLen k) w n0 n1 z0 z1)
    rw [show sinceV k n p q t = t % p by unfold sinceV; rw [if_pos hc], hc] at HT
    have HT := Lib.hid HT
    have HSG := Lib.hid (show sndG (fogLen k) (t % p) n 0 = soundA k n p q t by unfold soundA; rw [if_pos hc]; rfl)
    rw [hc]
    generalize soundA k n p q t = r at *
    generalize fogLen k = z at *
    generalize fogNm k = sn at *
    have s0 : 0 ≤ t % p := Int.emod_nonneg _ (by omega)
    have s1 : t % p < p := Int.emod_lt_of_pos _ (by omega)
    have s2 : t % p ≤ t := emod_self_le t0 (by omega)
    generalize t % p = s at *
    clear hF hE hc ho
    go_enter Tryd.func30, Tryd.ntmps30
    go_wp2_with (go_at_call 62; (refine (HT.out _ (by go_grown)).mono ?_); rintro e w1 ⟨rfl, hb⟩; refine Hid.out ?_)
    refine Lib.hid ?_
    have c0 := cell_below (a := ⟨w.heap.size, 0, none⟩) (v := .int .i64 k) (by go_cell) hb
    have c1 := cell_below (a := ⟨w.heap.size, 1, none⟩) (v := .int .i64 n) (by go_cell) hb
    have c2 := cell_below (a := ⟨w.heap.size, 2, none⟩) (v := .int .i64 p) (by go_cell) hb
    have c3 := cell_below (a := ⟨w.heap.size, 3, none⟩) (v := .int .i64 q) (by go_cell) hb
    have AC := Lib.hid (Below.next (a := w) (by go_grown) hb)
    have hz : w.heap.size < w1.heap.size := by have := hb.size; simp at this; omega
    clear hb
    go_wp2_with (go_at_call 49; (refine (HSO.out _ (AC.out.alloc AC.out.size _)).mono ?_); rintro e w2 ⟨rfl, hb⟩; refine Hid.out ?_)
    refine Lib.hid ?_
    have cs := cell_below (a := ⟨w1.heap.size, 0, none⟩) (v := .int .i64 s) (by go_cell) hb
    have AC2 := Lib.hid (Below.next (AC.out.alloc AC.out.size _) hb)
    clear hb
    go_wp2_with (go_at_call 57; (refine (HB.out _).mono ?_); rintro e w3 ⟨v, rfl, hr, hb⟩; refine Hid.out ?_)
    refine Lib.hid ?_
    replace cs := cell_below cs hb
    replace AC2 := Lib.hid (Below.next AC2.out hb)
    clear hb
    obtain ⟨g, cap, bs, ev, hr2⟩ : ∃ g cap bs, v = .slice (some ⟨g, 0, none⟩) n cap ∧ Rows2 w3 w2.heap.size g bs n (blastF z) := by
      rcases hr with ⟨e, _⟩ | ⟨_, g, cap, bs, e, h⟩
      · omega
      · exact ⟨g, cap, bs, e, h⟩
    clear hr
    subst ev
    have HCF := Lib.hid (rowcontains_any z s n g cap w1.heap.size bs _ w3 hr2 cs n1)
    rw [HSG.out] at HCF
    clear hr2 cs
    go_wp2_with (go_at_call 63; refine HCF.out.mono ?_; rintro e w4 ⟨rfl, hb⟩; have AC3 := Lib.hid (Below.next AC2.out hb); clear hb)
    go_ret2
    exact ⟨rfl, AC3.out⟩

  · have hs : sinceV k b p q t = 0 := by unfold sinceV; rw [if_neg hc]
    rw [hs] at HT
    rw [show soundA k b p q t = false by unfold soundA; rw [if_neg hc]]
    generalize askC k b p q t = c at *
    have HT := Lib.hid HT
    have hcb : (c == 0) = false := by rw [beq_eq_false_iff_ne]; exact hc
    clear hF hE
    go_enter Tryd.func30, Tryd.ntmps30
    go_wp2_with (go_at_call 62; (refine (HT.out _ (by go_grown)).mono ?_); rintro e w1 ⟨rfl, hb⟩; have AC := Lib.hid (Below.next (a := w) (by go_grown) hb); have ac := AC.out; have hs := ac.size; clear hb)
    go_ret2
    exact ⟨rfl, by go_grown⟩

end Go.Proofs.YtbfhnfoaipaljaaDoor
