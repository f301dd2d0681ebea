/- The law of Between. -/
import Derived.Test.YtochniaofmeheaaBtwA
import Derived.Test.YtochniaofmeheaaBtwSA
import Derived.Test.YtochniaofmeheaaReg
import Derived.Deep.RegionHeld3
import Derived.Deep.CutRange
namespace Go.Proofs.Ytochniaofmeheaa
open Go.ChangeShapes Go.WideShapes Go.ChangeAt Go.RowKit Pm

set_option maxHeartbeats 4000000 in
theorem between_law (ax ay bx cy i n : Int) (w : World) :
    Calls Try.prog 7 #[.agg #[.int .i64 ax, .int .i64 ay], .agg #[.int .i64 bx, .int .i64 cy], .int .i64 i, .int .i64 n] w fun e w' => e = .returned (.bool true) ∧ Below w.heap.size w w' := by
  go_enter Try.func7, Try.ntmps7
  go_wp2_with (fail)
  go_cut [9, 10] from 13 to 22 (fun p e wx => ∃ b : Nat, p = .pointer (some ⟨b, 0, none⟩) ∧ e = .int .i64 (btwE ax ay bx cy i n) ∧ (wx.cell? ⟨w.heap.size, 0, none⟩ = some (.int .i64 ax) ∧ wx.cell? ⟨w.heap.size, 1, none⟩ = some (.int .i64 ay) ∧ wx.cell? ⟨w.heap.size + 1, 0, none⟩ = some (.int .i64 bx) ∧ wx.cell? ⟨w.heap.size + 1, 1, none⟩ = some (.int .i64 cy) ∧ wx.cell? ⟨b, 0, none⟩ = some (.int .i64 (btwPX ax ay bx cy i n)) ∧ wx.cell? ⟨b, 1, none⟩ = some (.int .i64 (btwPY ax ay bx cy i n)) ∧ Below w.heap.size w wx) ∧ w.heap.size + 1 + 1 ≤ b ∧ b < wx.heap.size)
  case first =>
    go_region_held3 (fun w' => w'.cell? ⟨w.heap.size, 0, none⟩ = some (.int .i64 ax) ∧ w'.cell? ⟨w.heap.size, 1, none⟩ = some (.int .i64 ay) ∧ w'.cell? ⟨w.heap.size + 1, 0, none⟩ = some (.int .i64 bx) ∧ w'.cell? ⟨w.heap.size + 1, 1, none⟩ = some (.int .i64 cy) ∧ Below w.heap.size w w')
      (first | assumption | exact keep4 (by assumption) (by assumption) | exact drew4 (by assumption) | exact keepA4 (by assumption) | exact drew4 (keepA4 (by assumption)) | ((refine keepP4 ?_ ?_ ?_ ?_ ?_ (by assumption)) <;> (first | omega | (simp; done) | (simp; omega))) | ((refine keepX4 ?_ ?_ ?_ ?_ ?_ (by assumption)) <;> (first | omega | (simp; done) | (simp; omega))) | ((refine drew4 (keepX4 ?_ ?_ ?_ ?_ ?_ (by assumption))) <;> (first | omega | (simp; done) | (simp; omega))) | (refine ⟨?_, ?_, ?_, ?_, ?_⟩ <;> (first | (go_cell; done) | (go_grown; done))))
      (first
        | (go_at_call 10; refine (topoint_any _ _ _).mono ?_; rintro e w1 ⟨rfl, hb⟩; have sz := hb.size; (try simp at sz); (first | (have hq := new2 hb; obtain ⟨q0, q1, q2, q3, q4⟩ := hq) | (have hq := new2d hb; obtain ⟨q0, q1, q2, q3, q4⟩ := hq) | (have hq := carry2 hb q0 q1 q2 q3 q4; obtain ⟨q0, q1, q2, q3, q4⟩ := hq) | skip); (try simp only [World.size_alloc] at q0 q1 q2 q3 q4))
        | (go_at_call 18; refine (sbetween_any _ _ _ _ _ _ _).mono ?_; rintro e w1 ⟨rfl, hb⟩; have sz := hb.size; (try simp at sz); (first | (have hq := new2 hb; obtain ⟨q0, q1, q2, q3, q4⟩ := hq) | (have hq := new2d hb; obtain ⟨q0, q1, q2, q3, q4⟩ := hq) | (have hq := carry2 hb q0 q1 q2 q3 q4; obtain ⟨q0, q1, q2, q3, q4⟩ := hq) | skip); (try simp only [World.size_alloc] at q0 q1 q2 q3 q4)))
    all_goals
      go_wp2_with (fail)
      go_meet
      refine ⟨_, rfl, rfl, join4 (by assumption) ?_ ?_, ?_, ?_⟩ <;> (first | omega | (go_cell; done) | (simp; done) | (simp; omega))
  case rest =>
    obtain ⟨b, rfl, rfl, hold, hb1, hb2⟩ := hcut
    go_wp2_with (fail)
    go_region_held3 (fun w' => w'.cell? ⟨w.heap.size, 0, none⟩ = some (.int .i64 ax) ∧ w'.cell? ⟨w.heap.size, 1, none⟩ = some (.int .i64 ay) ∧ w'.cell? ⟨w.heap.size + 1, 0, none⟩ = some (.int .i64 bx) ∧ w'.cell? ⟨w.heap.size + 1, 1, none⟩ = some (.int .i64 cy) ∧ w'.cell? ⟨b, 0, none⟩ = some (.int .i64 (btwPX ax ay bx cy i n)) ∧ w'.cell? ⟨b, 1, none⟩ = some (.int .i64 (btwPY ax ay bx cy i n)) ∧ Below w.heap.size w w')
      (first | assumption | exact keep6 (by assumption) (by assumption) | exact drew6 (by assumption) | exact keepA6 (by assumption) | exact drew6 (keepA6 (by assumption)) | ((refine keepP6 ?_ ?_ ?_ ?_ ?_ ?_ ?_ (by assumption)) <;> (first | omega | (simp; done) | (simp; omega))) | ((refine keepX6 ?_ ?_ ?_ ?_ ?_ ?_ ?_ (by assumption)) <;> (first | omega | (simp; done) | (simp; omega))) | ((refine drew6 (keepX6 ?_ ?_ ?_ ?_ ?_ ?_ ?_ (by assumption))) <;> (first | omega | (simp; done) | (simp; omega))) | (refine ⟨?_, ?_, ?_, ?_, ?_, ?_, ?_⟩ <;> (first | (go_cell; done) | (go_grown; done))))
      (first
        | (go_at_call 10; refine (topoint_any _ _ _).mono ?_; rintro e w1 ⟨rfl, hb⟩; have sz := hb.size; (try simp at sz); (first | (have hq := new2 hb; obtain ⟨q0, q1, q2, q3, q4⟩ := hq) | (have hq := new2d hb; obtain ⟨q0, q1, q2, q3, q4⟩ := hq) | (have hq := carry2 hb q0 q1 q2 q3 q4; obtain ⟨q0, q1, q2, q3, q4⟩ := hq) | skip); (try simp only [World.size_alloc] at q0 q1 q2 q3 q4))
        | (go_at_call 19; refine (between_any _ _ _ _ _ _ _).mono ?_; rintro e w1 ⟨rfl, hb⟩; have sz := hb.size; (try simp at sz); (first | (have hq := new2 hb; obtain ⟨q0, q1, q2, q3, q4⟩ := hq) | (have hq := new2d hb; obtain ⟨q0, q1, q2, q3, q4⟩ := hq) | (have hq := carry2 hb q0 q1 q2 q3 q4; obtain ⟨q0, q1, q2, q3, q4⟩ := hq) | skip); (try simp only [World.size_alloc] at q0 q1 q2 q3 q4)))
    all_goals
      go_split_ands
      go_wp2_with (go_at_call 20; refine (eqpt_any _ _ _).mono ?_; rintro e w3 ⟨rfl, hb⟩; have ac := Below.next (a := w) (by go_grown) hb)
      go_ret
      exact ⟨rfl, by go_grown⟩
end Go.Proofs.Ytochniaofmeheaa
