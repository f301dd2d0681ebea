/- The program's bearing. -/
import Derived.Test.YthccbipjmheoaaaDoorSin
import Derived.Test.YthccbipjmheoaaaDoorWay
import Derived.Test.YthccbipjmheoaaaDoorGeoN
import Derived.Deep.RegionHeld3
import Derived.LoopTactic
namespace Go.Proofs.YthccbipjmheoaaaDoor
open Go.ChangeShapes Go.WideShapes Go.ChangeAt Go.RowKit Pm

theorem progress_any (wx wy d : Int) (w : World) (hS : SinesAt w) (y0 : -200000 ≤ wx) (y1 : wx ≤ 200000) (y2 : -200000 ≤ wy) (y3 : wy ≤ 200000) :
    Calls Tryd.prog 43 #[.agg #[.int .i64 wx, .int .i64 wy], .int .i64 d] w fun e w' => e = .returned (.int .i64 (prog wx wy d)) ∧ Below w.heap.size w w' := by
  have HS := Lib.hid hS
  have HP := Lib.hid (show wx * sinR d + wy * cosR d = prog wx wy d by rw [cos_eq]; rfl)
  obtain ⟨s0, s1⟩ := sin_bd d
  have hc := sin_bd (d + 90)
  rw [← cos_eq] at hc
  obtain ⟨c0, c1⟩ := hc
  clear hS
  go_enter Tryd.func43, Tryd.ntmps43
  go_wp2_with (fail)
  go_region_held3 (fun w' => w'.cell? ⟨w.heap.size, 0, none⟩ = some (.int .i64 wx) ∧ w'.cell? ⟨w.heap.size, 1, none⟩ = some (.int .i64 wy) ∧ Below w.heap.size w w')
    (first | assumption | exact keep2 (by assumption) (by assumption) | exact drew2 (by assumption) | exact ⟨by go_cell, by go_cell, by go_grown⟩)
    (first
      | (go_at_call 45; refine (sine_any _ _ (SinesAt.below HS.out (keepB2 (by assumption)))).mono ?_; rintro e w1 ⟨rfl, hb⟩)
      | (go_at_call 46; refine (cosine_any _ _ (SinesAt.below HS.out (keepB2 (by assumption)))).mono ?_; rintro e w1 ⟨rfl, hb⟩)
      | (go_at_call 66; refine (dot_any _ _ _ _ _ y0 y1 y2 y3 s0 s1 c0 c1).mono ?_; rintro e w1 ⟨rfl, hb⟩; rw [HP.out]))
  go_wp2
  go_ret
  exact ⟨rfl, keepB2 (by assumption)⟩

theorem best_one (f : Int → Int) : Best f 1 0 := ⟨by omega, by omega, fun i h0 h1 => by rw [show i = 0 by omega]; exact Int.le_refl _, fun i h0 h1 => by omega⟩
theorem best_up {f : Int → Int} {k r : Int} (hk : 0 ≤ k) (h : Best f k r) (hlt : f r < f k) : Best f (k + 1) k := by
  obtain ⟨h0, h1, h2, h3⟩ := h
  refine ⟨hk, by omega, fun i i0 i1 => ?_, fun i i0 i1 => ?_⟩
  · by_cases hi : i < k
    · have := h2 i i0 hi; omega
    · rw [show i = k by omega]; exact Int.le_refl _
  · have := h2 i i0 i1; omega
theorem best_stay {f : Int → Int} {k r : Int} (h : Best f k r) (hlt : ¬ f r < f k) : Best f (k + 1) r := by
  obtain ⟨h0, h1, h2, h3⟩ := h
  refine ⟨h0, by omega, fun i i0 i1 => ?_, h3⟩
  by_cases hi : i < k
  · exact h2 i i0 hi
  · rw [show i = k by omega]; omega

theorem first_any (wx wy n : Int) (w : World) (hS : SinesAt w) (y0 : -200000 ≤ wx) (y1 : wx ≤ 200000) (y2 : -200000 ≤ wy) (y3 : wy ≤ 200000) (hn : 1 ≤ n) (hn1 : n ≤ 1000) :
    Calls Tryd.prog 41 #[.int .i64 n, .func (.func 43) #[.agg #[.int .i64 wx, .int .i64 wy]] #[]] w fun e w' => ∃ r, Best (prog wx wy) n r ∧ e = .returned (.int .i64 r) ∧ Below w.heap.size w w' := by
  have HC := Lib.hid (fun d W (hB : Below w.heap.size w W) => progress_any wx wy d W (hS.below hB) y0 y1 y2 y3)
  clear hS y0 y1 y2 y3
  have B1 := Lib.hid (best_one (prog wx wy))
  generalize prog wx wy = f at *
  go_enter Tryd.func41, Tryd.ntmps41
  go_wp2_with (go_at_call 43; refine (HC.out _ _ (by go_grown)).mono ?_; rintro e w1 ⟨rfl, hb⟩)
  go_loopw [5, 6, 7] (fun b m i wr => ∃ (k : Nat) (r : Int), (k : Int) ≤ n ∧ i = .int .i64 k ∧ b = .int .i64 r ∧ m = .int .i64 (f r) ∧ Best f k r ∧ Below w.heap.size w wr) (fun _ _ i _ => n.toNat - (intOf i).toNat)
  case atStart => exact ⟨1, 0, by omega, rfl, rfl, rfl, B1.out, hb⟩
  case round =>
    obtain ⟨k, r, hk, rfl, rfl, rfl, hB, hbel⟩ := hrel
    have HB := Lib.hid hB
    have HBE := Lib.hid hbel
    clear hB hbel hb
    by_cases hlt : (k : Int) < n
    · by_cases hg : f r < f k
      · have HN := Lib.hid (best_up (by omega) HB.out hg)
        go_wp2_with (go_at_call 43; refine (HC.out _ _ HBE.out).mono ?_; rintro e w2 ⟨rfl, hb⟩; have ac := HBE.out.trans (hb.mono HBE.out.size); clear hb)
        go_roundw
        case rel => exact ⟨k + 1, k, by omega, by go_num, rfl, rfl, HN.out, by assumption⟩
        case measure => simp [intOf]; omega
      · have HN := Lib.hid (best_stay HB.out hg)
        go_wp2_with (go_at_call 43; refine (HC.out _ _ HBE.out).mono ?_; rintro e w2 ⟨rfl, hb⟩; have ac := HBE.out.trans (hb.mono HBE.out.size); clear hb)
        go_roundw
        case rel => exact ⟨k + 1, r, by omega, by go_num, rfl, rfl, HN.out, by assumption⟩
        case measure => simp [intOf]; omega
    · go_wp2
      go_ret
      exact ⟨r, by rw [show n = (k : Int) by omega]; exact HB.out, rfl, HBE.out⟩
end Go.Proofs.YthccbipjmheoaaaDoor
