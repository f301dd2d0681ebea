/- Distances from a segment, of the model. -/
import Derived.Test.YthccbipjmheoaaaGap
import Derived.Test.YthccbipjmheoaaaFar
import Derived.Test.YthccbipjmheoaaaSideS
import Derived.Deep.RegionHeld3
namespace Go.Proofs.Ythccbipjmheoaaa
open Go.ChangeShapes Go.WideShapes Go.ChangeAt Go.RowKit Pm

theorem smax_any (a b : Int) (w : World) :
    Calls Try.prog 106 #[.int .i64 a, .int .i64 b] w fun e w' => e = .returned (.int .i64 (if a < b then b else a)) ∧ w = w' := by
  obtain ⟨r, hr⟩ : ∃ r, (if a < b then b else a) = r := ⟨_, rfl⟩
  rw [hr]
  by_cases h : b < a
  · rw [if_neg (by omega)] at hr
    subst hr
    go_enter Try.func106, Try.ntmps106
    go_wp2
    go_ret
    exact ⟨rfl, rfl⟩
  · have hv : b = r := by split at hr <;> omega
    subst hv
    clear hr
    go_enter Try.func106, Try.ntmps106
    go_wp2
    go_ret
    exact ⟨rfl, rfl⟩

theorem sgap_in (ax ay bx cy px py : Int) (w : World) (hc : allOk3 ax ay bx cy px py = true) :
    Calls Try.prog 79 #[.agg #[.int .i64 ax, .int .i64 ay], .agg #[.int .i64 bx, .int .i64 cy], .agg #[.int .i64 px, .int .i64 py]] w fun e w' => ∃ r, GapR ax ay bx cy px py r ∧ e = .returned (.int .i64 r) ∧ Below w.heap.size w w' := by
  obtain ⟨ha, hb, hp⟩ := vd3 hc
  have HA := Lib.hid ha
  have HB := Lib.hid hb
  have HP := Lib.hid hp
  have HC := Lib.hid hc
  obtain ⟨al, hal⟩ : ∃ al, alongOf ax ay bx cy px py = al := ⟨_, rfl⟩
  obtain ⟨d, hd⟩ : ∃ d, sqd ax ay bx cy = d := ⟨_, rfl⟩
  obtain ⟨x, hx⟩ : ∃ x, crossOf ax ay bx cy px py = x := ⟨_, rfl⟩
  have hraw : (bx - ax) * (px - ax) + (cy - ay) * (py - ay) = al := hal
  have HX := Lib.hid hx
  have HSQ := Lib.hid hd
  have HG1 := Lib.hid (fun r (h : al ≤ 0) (k : Root (sqd ax ay px py) r) => (show GapR ax ay bx cy px py r by
    unfold GapR GapIs; rw [if_pos hc, if_pos (by omega)]; exact k))
  have HG2 := Lib.hid (fun r (h : 0 < al) (h2 : d ≤ al) (k : Root (sqd bx cy px py) r) => (show GapR ax ay bx cy px py r by
    unfold GapR GapIs; rw [if_pos hc, if_neg (by omega), if_pos (by omega)]; exact k))
  have HG3 := Lib.hid (fun r (h : 0 < al) (h2 : al < d) (k : 0 ≤ r ∧ r * r * d ≤ x * x ∧ x * x < (r + 1) * (r + 1) * d) => (show GapR ax ay bx cy px py r by
    unfold GapR GapIs; rw [if_pos hc, if_neg (by omega), if_neg (by omega), hd, hx]; exact k))
  have hxb := cross_bd hc
  rw [hx] at hxb
  have hdb := sqd_bd ha hb
  rw [hd] at hdb
  have hd0 := sqd_nn ax ay bx cy
  rw [hd] at hd0
  have hrm := gap_room (bx := bx) (cy := cy) (sqd_bd ha hp)
  rw [hx, hd] at hrm
  obtain ⟨x0, x1⟩ := hxb
  obtain ⟨a0, a1, a2, a3⟩ := ha
  obtain ⟨b0, b1, b2, b3⟩ := hb
  obtain ⟨p0, p1, p2, p3⟩ := hp
  have m1 := mul_bd (a := bx - ax) (b := px - ax) (A := 200000) (B := 200000) (by omega) (by omega) (by omega) (by omega)
  have m2 := mul_bd (a := cy - ay) (b := py - ay) (A := 200000) (B := 200000) (by omega) (by omega) (by omega) (by omega)
  have HSm := Lib.hid (show 0 < d → (if x < -x then -x else x) * (if x < -x then -x else x) = x * x ∧ x * x < 300001 * 300001 * d by
    intro h0
    refine ⟨by split; exact Int.neg_mul_neg x x; rfl, by omega⟩)
  have HMx := Lib.hid (show 0 ≤ (if x < -x then -x else x) ∧ (if x < -x then -x else x) ≤ 80000000000 by split <;> omega)
  clear hc hal hd hx
  by_cases h1 : al ≤ 0
  · have HV := Lib.hid (fun r k => HG1.out r h1 k)
    go_enter Try.func79, Try.ntmps79
    go_wp2_with (first
      | (go_at_call 98; refine (ssquare_any _ _ _ _ _ HA.out HB.out).mono ?_; rintro e w1 ⟨rfl, hb⟩; rw [HSQ.out]; have hw := Below.next (a := w) (by go_grown) hb; have c0 := cell_below (a := ⟨w.heap.size, 0, none⟩) (v := .int .i64 ax) (by go_cell) hb; have c1 := cell_below (a := ⟨w.heap.size, 1, none⟩) (v := .int .i64 ay) (by go_cell) hb; have c2 := cell_below (a := ⟨w.heap.size + 1, 0, none⟩) (v := .int .i64 bx) (by go_cell) hb; have c3 := cell_below (a := ⟨w.heap.size + 1, 1, none⟩) (v := .int .i64 cy) (by go_cell) hb; have c4 := cell_below (a := ⟨w.heap.size + 1 + 1, 0, none⟩) (v := .int .i64 px) (by go_cell) hb; have c5 := cell_below (a := ⟨w.heap.size + 1 + 1, 1, none⟩) (v := .int .i64 py) (by go_cell) hb; clear hb)
      | (go_at_call 66; refine (sapart_any _ _ _ _ _ HA.out HP.out).mono ?_; rintro e w2 ⟨r, hr, rfl, hb⟩; have ac := Below.next hw hb; clear hb))
    go_ret
    exact ⟨r, HV.out r hr, rfl, ac⟩
  · by_cases h2 : d ≤ al
    · have HV := Lib.hid (fun r k => HG2.out r (by omega) h2 k)
      go_enter Try.func79, Try.ntmps79
      go_wp2_with (first
        | (go_at_call 98; refine (ssquare_any _ _ _ _ _ HA.out HB.out).mono ?_; rintro e w1 ⟨rfl, hb⟩; rw [HSQ.out]; have hw := Below.next (a := w) (by go_grown) hb; have c0 := cell_below (a := ⟨w.heap.size, 0, none⟩) (v := .int .i64 ax) (by go_cell) hb; have c1 := cell_below (a := ⟨w.heap.size, 1, none⟩) (v := .int .i64 ay) (by go_cell) hb; have c2 := cell_below (a := ⟨w.heap.size + 1, 0, none⟩) (v := .int .i64 bx) (by go_cell) hb; have c3 := cell_below (a := ⟨w.heap.size + 1, 1, none⟩) (v := .int .i64 cy) (by go_cell) hb; have c4 := cell_below (a := ⟨w.heap.size + 1 + 1, 0, none⟩) (v := .int .i64 px) (by go_cell) hb; have c5 := cell_below (a := ⟨w.heap.size + 1 + 1, 1, none⟩) (v := .int .i64 py) (by go_cell) hb; clear hb)
        | (go_at_call 66; refine (sapart_any _ _ _ _ _ HB.out HP.out).mono ?_; rintro e w2 ⟨r, hr, rfl, hb⟩; have ac := Below.next hw hb; clear hb))
      go_ret
      exact ⟨r, HV.out r hr, rfl, ac⟩
    · have HV := Lib.hid (fun r k => HG3.out r (by omega) (by omega) k)
      obtain ⟨hs1, hs2⟩ := HSm.out (by omega)
      obtain ⟨hm1, hm2⟩ := HMx.out
      obtain ⟨g, hg⟩ : ∃ g, (if x < -x then -x else x) = g := ⟨_, rfl⟩
      rw [hg] at hs1 hm1 hm2
      have HF := Lib.hid (fun w => sfar_any g d w hm1 (by omega) hd0 (by omega) (by rw [hs1]; exact hs2))
      have HGE := Lib.hid hg
      have HS1 := Lib.hid hs1
      clear hs1 hs2 hg
      go_enter Try.func79, Try.ntmps79
      go_wp2_with (first
        | (go_at_call 98; refine (ssquare_any _ _ _ _ _ HA.out HB.out).mono ?_; rintro e w1 ⟨rfl, hb⟩; rw [HSQ.out]; have hw := Below.next (a := w) (by go_grown) hb; have c0 := cell_below (a := ⟨w.heap.size, 0, none⟩) (v := .int .i64 ax) (by go_cell) hb; have c1 := cell_below (a := ⟨w.heap.size, 1, none⟩) (v := .int .i64 ay) (by go_cell) hb; have c2 := cell_below (a := ⟨w.heap.size + 1, 0, none⟩) (v := .int .i64 bx) (by go_cell) hb; have c3 := cell_below (a := ⟨w.heap.size + 1, 1, none⟩) (v := .int .i64 cy) (by go_cell) hb; have c4 := cell_below (a := ⟨w.heap.size + 1 + 1, 0, none⟩) (v := .int .i64 px) (by go_cell) hb; have c5 := cell_below (a := ⟨w.heap.size + 1 + 1, 1, none⟩) (v := .int .i64 py) (by go_cell) hb; clear hb)
        | (go_at_call 104; refine (scross_any _ _ _ _ _ _ _ HC.out).mono ?_; rintro e w2 ⟨rfl, hb⟩; rw [HX.out]; have ac := Below.next hw hb; clear hb)
        | (go_at_call 106; refine (smax_any _ _ _).mono ?_; rintro e w3 ⟨rfl, rfl⟩; rw [HGE.out])
        | (go_at_call 105; refine (HF.out _).mono ?_; rintro e w3 ⟨r, hr, rfl, rfl⟩; rw [HS1.out] at hr))
      go_ret
      exact ⟨r, HV.out r hr, rfl, ac⟩

end Go.Proofs.Ythccbipjmheoaaa
