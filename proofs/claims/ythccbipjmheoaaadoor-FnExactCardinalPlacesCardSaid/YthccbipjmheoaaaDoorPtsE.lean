/- Copies of a list of points, and their comparison. -/
import Derived.Test.YthccbipjmheoaaaDoorPts
import Derived.Deep.RegionHeld3
namespace Go.Proofs.YthccbipjmheoaaaDoor
open Go.ChangeShapes Go.WideShapes Go.ChangeAt Go.RowKit Pm

/-- A slice that came in reads as points: it is empty, wherever it leads, or a row of cells. -/
def ArgPts (w : World) (a : Option Addr) (n : Nat) (ps : List (Int × Int)) : Prop :=
  n = ps.length ∧ (ps = [] ∨ ∃ b off, a = some ⟨b, off, none⟩ ∧ ∀ i, i < ps.length → w.cell? ⟨b, off + i * 2, none⟩ = some (.int .i64 (ps.getD i (0, 0)).1) ∧ w.cell? ⟨b, off + i * 2 + 1, none⟩ = some (.int .i64 (ps.getD i (0, 0)).2))
theorem ArgPts.below {w w' : World} {a : Option Addr} {n : Nat} {ps : List (Int × Int)} (h : ArgPts w a n ps) (hb : Below w.heap.size w w') : ArgPts w' a n ps := by
  obtain ⟨h0, h⟩ := h
  refine ⟨h0, ?_⟩
  rcases h with h | ⟨b, off, h1, h2⟩
  · exact .inl h
  · exact .inr ⟨b, off, h1, fun i hi => ⟨cell_below (h2 i hi).1 hb, cell_below (h2 i hi).2 hb⟩⟩

theorem pts_of_own {w : World} {B : Nat} {T : TypeId} {v : Value} {ps : List (Int × Int)} (h : w.ownsRow B T 2 v ps.length (ptsV ps)) (hn : ps.length ≤ 1048576) :
    ∃ a c, v = .slice a ps.length c ∧ PtsAre w (.slice a ps.length c) ps := by
  by_cases h0 : ps.length = 0
  · have hnil : ps = [] := List.length_eq_zero_iff.1 h0
    subst hnil
    rcases h.2 with ⟨h1, _⟩ | ⟨g, cap, cur, h1, _⟩
    · exact ⟨none, 0, h1, .inl ⟨rfl, rfl⟩⟩
    · exact ⟨_, cap, h1, .inr ⟨g, 0, cap, rfl, by simp, fun i hi => by simp at hi⟩⟩
  · obtain ⟨g, cap, hv⟩ : ∃ g cap, v = .slice (some ⟨g, 0, none⟩) ps.length cap := by
      rcases h.2 with ⟨_, hz⟩ | ⟨g, cap, _, hv, _⟩
      · exact absurd hz h0
      · exact ⟨g, cap, hv⟩
    rw [hv] at h
    refine ⟨_, cap, hv, .inr ⟨g, 0, cap, rfl, by omega, fun i hi => ?_⟩⟩
    obtain ⟨v0, v1⟩ := ptsV_at ps i hi
    rw [Nat.zero_add]
    exact ⟨(h.cellAt (i * 2) (by omega)).trans v0, (h.cellAt (i * 2 + 1) (by omega)).trans v1⟩

/-- A copy, as a slice that reads as the points. -/
def CopyPts (ps : List (Int × Int)) (w : World) (e : Ending) (w' : World) : Prop :=
  ∃ a c, e = .returned (.slice a ps.length c) ∧ PtsAre w' (.slice a ps.length c) ps ∧ Below w.heap.size w w'

theorem eqpts_same (a1 a2 : Option Addr) (c1 c2 : Nat) (ps : List (Int × Int)) (w : World) (hn : ps.length ≤ 1048576) (h1 : PtsAre w (.slice a1 ps.length c1) ps) (h2 : PtsAre w (.slice a2 ps.length c2) ps) :
    Calls Tryd.prog 13 #[.slice a1 ps.length c1, .slice a2 ps.length c2] w fun e w' => e = .returned (.bool true) ∧ Below w.heap.size w w' := by
  by_cases h0 : ps.length = 0
  · have hnil : ps = [] := List.length_eq_zero_iff.1 h0
    subst hnil
    clear h1 h2 h0
    go_enter Tryd.func13, Tryd.ntmps13
    go_wp2
    go_rounds 1
    go_ret
    exact ⟨rfl, Below.refl _ _⟩
  · rcases h1 with ⟨hv, hnil⟩ | ⟨b, off, cap, hv, _, H1⟩
    · rw [hnil] at h0; exact absurd rfl h0
    rcases h2 with ⟨hv2, hnil⟩ | ⟨b', off', cap', hv2, _, H2⟩
    · rw [hnil] at h0; exact absurd rfl h0
    obtain ⟨rfl, _, rfl⟩ : a1 = some ⟨b, off, none⟩ ∧ True ∧ c1 = cap := by simpa using hv
    obtain ⟨rfl, _, rfl⟩ : a2 = some ⟨b', off', none⟩ ∧ True ∧ c2 = cap' := by simpa using hv2
    have HC := Lib.hid H1
    have HD := Lib.hid H2
    clear hv hv2 H1 H2 h0
    go_enter Tryd.func13, Tryd.ntmps13
    go_wp2_with (fail)
    go_loopw [5] (fun i wr => ∃ k : Nat, k ≤ ps.length ∧ i = .int .i64 k ∧ Below w.heap.size w wr) (fun i _ => ps.length - (intOf i).toNat)
    case atStart => exact ⟨0, Nat.zero_le _, rfl, by go_grown⟩
    case round =>
      obtain ⟨k, hk, rfl, hbel⟩ := hrel
      by_cases hlt : k < ps.length
      · have hkn : (k : Int) < (ps.length : Int) := by omega
        have e0 := cell_below (HC.out k hlt).1 hbel
        have e1 := cell_below (HC.out k hlt).2 hbel
        have e2 := cell_below (HD.out k hlt).1 hbel
        have e3 := cell_below (HD.out k hlt).2 hbel
        generalize (ps.getD k (0, 0)).1 = x at *
        generalize (ps.getD k (0, 0)).2 = y at *
        go_wp2_with (fail)
        go_region_held3 (fun w' => w'.cell? ⟨b, off + k * 2, none⟩ = some (.int .i64 x) ∧ w'.cell? ⟨b, off + k * 2 + 1, none⟩ = some (.int .i64 y) ∧ w'.cell? ⟨b', off' + k * 2, none⟩ = some (.int .i64 x) ∧ w'.cell? ⟨b', off' + k * 2 + 1, none⟩ = some (.int .i64 y) ∧ Below w.heap.size w w')
          (first | assumption | exact keep4 (by assumption) (by assumption) | exact drew4 (by assumption) | exact keepA4 (by assumption) | exact drew4 (keepA4 (by assumption)) | ((refine keepP4 ?_ ?_ ?_ ?_ ?_ (by assumption)) <;> (first | omega | (simp; done) | (simp; omega))) | ((refine keepX4 ?_ ?_ ?_ ?_ ?_ (by assumption)) <;> (first | omega | (simp; done) | (simp; omega))) | ((refine drew4 (keepX4 ?_ ?_ ?_ ?_ ?_ (by assumption))) <;> (first | omega | (simp; done) | (simp; omega))) | (refine ⟨?_, ?_, ?_, ?_, ?_⟩ <;> (first | (go_cell; done) | (go_grown; done))))
          (first
            | (go_at_call 29; refine (eqpt_any _ _ _).mono ?_; rintro e w3 ⟨rfl, hb⟩))
        all_goals
          go_wp2
          go_roundw
          case rel => exact ⟨k + 1, by omega, by go_num, keepB4 (by assumption)⟩
          case measure => simp [intOf]; omega
      · have hge : ¬ (k : Int) < (ps.length : Int) := by omega
        have HBE := Lib.hid hbel
        clear hbel
        go_wp2
        go_ret
        exact ⟨rfl, HBE.out⟩
end Go.Proofs.YthccbipjmheoaaaDoor
