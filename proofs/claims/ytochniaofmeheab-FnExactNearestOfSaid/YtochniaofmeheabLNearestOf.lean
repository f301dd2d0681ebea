/- The law of NearestOf. -/
import Derived.Test.YtochniaofmeheabNearS
import Derived.Test.YtochniaofmeheabPtsE
import Derived.Deep.RegionHeld3
namespace Go.Proofs.Ytochniaofmeheab
open Go.ChangeShapes Go.WideShapes Go.ChangeAt Go.RowKit Pm

theorem keepId2 {w0 w : World} {a0 a1 : Addr} {v0 v1 : Value} (h : w.cell? a0 = some v0 ∧ w.cell? a1 = some v1 ∧ Below w0.heap.size w0 w) : w.cell? a0 = some v0 ∧ w.cell? a1 = some v1 ∧ Below w0.heap.size w0 w := h

set_option maxHeartbeats 1000000 in
theorem nearestof_law (a : Option Addr) (n c : Nat) (px py : Int) (ps : List (Int × Int)) (w : World) (h : ArgPts w a n ps) (hm : n ≤ maxLen) :
    Calls Try.prog 3 #[.slice a n c, .agg #[.int .i64 px, .int .i64 py]] w fun e w' => e = .returned (.bool true) ∧ Below w.heap.size w w' := by
  have HA := Lib.hid h
  unfold maxLen at hm
  have hm1 : (n : Int) ≤ 9223372036854775807 := by omega
  obtain ⟨rfl, _⟩ := h
  by_cases hl : ps.length ≤ 1048576
  · have hn1 : (ps.length : Int) ≤ 1048576 := by omega
    go_enter Try.func3, Try.ntmps3
    go_wp2_with (go_at_call 4; go_in)
    go_region_held3 (fun w' => w'.cell? ⟨w.heap.size, 0, none⟩ = some (.int .i64 px) ∧ w'.cell? ⟨w.heap.size, 1, none⟩ = some (.int .i64 py) ∧ Below w.heap.size w w')
      (first | assumption | exact keep2 (by assumption) (by assumption) | exact drew2 (by assumption) | exact keepA2 (by assumption) | exact drew2 (keepA2 (by assumption)) | ((refine keepP2 ?_ ?_ ?_ (by assumption)) <;> (first | omega | (simp; done) | (simp; omega))) | ((refine keepX2 ?_ ?_ ?_ (by assumption)) <;> (first | omega | (simp; done) | (simp; omega))) | ((refine drew2 (keepX2 ?_ ?_ ?_ (by assumption))) <;> (first | omega | (simp; done) | (simp; omega))) | (refine ⟨?_, ?_, ?_⟩ <;> (first | (go_cell; done) | (go_grown; done))))
      (first
        | (go_at_call 6; refine (topts_any _ _ _ ps _ (HA.out.below (keepB2 (by assumption))) hl).mono ?_; rintro e w1 ⟨a1, k1, rfl, hp, hb⟩)
        | (go_at_call 7; refine (topoint_any _ _ _).mono ?_; rintro e w1 ⟨rfl, hb⟩; have hp := hp.below hb)
        | (go_at_call 5; refine (snearest_any _ _ _ _ ps _ hp).mono ?_; rintro e w1 ⟨r, hr, rfl, hb⟩))
    obtain ⟨c0, c1, ac⟩ := keepId2 (by assumption)
    have hd : Hid (NearIs px py ps r) := Lib.hid hr
    go_wp2_with (first
      | (go_at_call 9; refine (eqpts_same _ _ _ _ ps _ hl hx hp2).mono ?_; rintro e w4 ⟨rfl, hb⟩; have ac4 := Below.next ac hb; clear hb)
      | (go_at_call 6; refine (topts_any _ _ _ ps _ (HA.out.below ac) hl).mono ?_; rintro e w2 ⟨a2, k2, rfl, hp2, hb⟩; have ac := Below.next ac hb; have c0 := cell_below c0 hb; have c1 := cell_below c1 hb; (first | have hx := hx.below hb | have hx := hp2); clear hb)
      | (go_at_call 7; refine (topoint_any _ _ _).mono ?_; rintro e w2 ⟨rfl, hb⟩; have ac := Below.next ac hb; have c0 := cell_below c0 hb; have c1 := cell_below c1 hb; have hx := hx.below hb; clear hb)
      | (go_at_call 8; refine (nearest_any _ _ _ _ ps _ hx).mono ?_; rintro e w2 ⟨s, hs, rfl, hb⟩; obtain rfl := hs.one hd.out; have ac := Below.next ac hb; have c0 := cell_below c0 hb; have c1 := cell_below c1 hb; have hx := hx.below hb; clear hb))
    go_ret
    exact ⟨rfl, by assumption⟩
  · have hn1 : (1048576 : Int) < (ps.length : Int) := by omega
    go_enter Try.func3, Try.ntmps3
    go_wp2_with (go_at_call 4; go_in)
    go_ret
    exact ⟨rfl, by go_grown⟩
end Go.Proofs.Ytochniaofmeheab
