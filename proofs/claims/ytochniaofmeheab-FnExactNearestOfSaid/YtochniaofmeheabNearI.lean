/- The program's NearestOf. -/
import Derived.Test.YtochniaofmeheabNearC
import Derived.LoopTactic
namespace Go.Proofs.Ytochniaofmeheab
open Go.ChangeShapes Go.WideShapes Go.ChangeAt Go.RowKit Pm

theorem best_one (f : Int → Int) : Best f 1 0 := ⟨by omega, by omega, fun i h0 h1 => by rw [show i = 0 by omega]; exact Int.le_refl _, fun i h0 h1 => by omega⟩
theorem best_up {f : Int → Int} {k r : Int} (hk : 0 ≤ k) (h : Best f k r) (hlt : f r < f k) : Best f (k + 1) k := by
  obtain ⟨h0, h1, h2, h3⟩ := h
  refine ⟨hk, by omega, fun i i0 i1 => ?_, fun i i0 i1 => ?_⟩
  · by_cases hi : i < k
    · have := h2 i i0 hi; omega
    · rw [show i = k by omega]; exact Int.le_refl _
  · have := h2 i i0 i1; omega
theorem best_stay {f : Int → Int} {k r : Int} (h : Best f k r) (hlt : ¬ f r < f k) : Best f (k + 1) r := by
  obtain ⟨h0, h1, h2, h3⟩ := h
  refine ⟨h0, by omega, fun i i0 i1 => ?_, h3⟩
  by_cases hi : i < k
  · exact h2 i i0 hi
  · rw [show i = k by omega]; omega

/-- How near a point of a list is: less the square of its distance. -/
def nearF (px py : Int) (ps : List (Int × Int)) (i : Int) : Int := -(sqd px py (ps.getD i.toNat (0, 0)).1 (ps.getD i.toNat (0, 0)).2)
theorem vd_at {ps : List (Int × Int)} (h : ps.all okB = true) (k : Nat) (hk : k < ps.length) : Vd (ps.getD k (0, 0)).1 (ps.getD k (0, 0)).2 := by
  have := List.all_eq_true.1 h ps[k] (List.getElem_mem hk)
  rw [List.getD_eq_getElem?_getD, List.getElem?_eq_getElem hk]
  exact vd_of this

theorem first_any (g h b off cap : Nat) (px py : Int) (ps : List (Int × Int)) (w : World) (hp : Vd px py) (hall : ps.all okB = true) (hn : ps.length ≤ 64) (hn0 : 1 ≤ ps.length)
    (c0 : w.cell? ⟨g, 0, none⟩ = some (.int .i64 px)) (c1 : w.cell? ⟨g, 1, none⟩ = some (.int .i64 py)) (c2 : w.cell? ⟨h, 0, none⟩ = some (.slice (some ⟨b, off, none⟩) ps.length cap))
    (hc : ∀ i, i < ps.length → w.cell? ⟨b, off + i * 2, none⟩ = some (.int .i64 (ps.getD i (0, 0)).1) ∧ w.cell? ⟨b, off + i * 2 + 1, none⟩ = some (.int .i64 (ps.getD i (0, 0)).2)) :
    Calls Try.prog 17 #[.int .i64 ps.length, .func (.func 14) #[] #[.pointer (some ⟨g, 0, none⟩), .pointer (some ⟨h, 0, none⟩)]] w fun e w' => ∃ r, Best (nearF px py ps) ps.length r ∧ e = .returned (.int .i64 r) ∧ Below w.heap.size w w' := by
  have HC := Lib.hid (show ∀ (k : Nat) W, k < ps.length → Below w.heap.size w W → Calls Try.prog 14 #[.int .i64 k, .pointer (some ⟨g, 0, none⟩), .pointer (some ⟨h, 0, none⟩)] W fun e w' => e = .returned (.int .i64 (nearF px py ps k)) ∧ Below W.heap.size W w' from
    fun k W hk hB => near_any g h b off ps.length cap k px py _ _ W hp (vd_at hall k hk) hk hn (cell_below c0 hB) (cell_below c1 hB) (cell_below c2 hB) (cell_below (hc k hk).1 hB) (cell_below (hc k hk).2 hB))
  clear hp hall c0 c1 c2 hc
  have B1 := Lib.hid (best_one (nearF px py ps))
  have H0 := Lib.hid (HC.out 0)
  generalize nearF px py ps = f at *
  generalize ps.length = n at *
  go_enter Try.func17, Try.ntmps17
  go_wp2_with (go_at_call 14; refine (H0.out _ hn0 (by go_grown)).mono ?_; rintro e w1 ⟨rfl, hb⟩)
  go_loopw [5, 6, 7] (fun b m i wr => ∃ (k : Nat) (r : Int), k ≤ n ∧ i = .int .i64 k ∧ b = .int .i64 r ∧ m = .int .i64 (f r) ∧ Best f k r ∧ Below w.heap.size w wr) (fun _ _ i _ => n - (intOf i).toNat)
  case atStart => exact ⟨1, 0, hn0, rfl, rfl, rfl, B1.out, hb⟩
  case round =>
    obtain ⟨k, r, hk, rfl, rfl, rfl, hB, hbel⟩ := hrel
    have HB := Lib.hid hB
    have HBE := Lib.hid hbel
    clear hB hbel hb
    by_cases hlt : k < n
    · have hlt2 : (k : Int) < (n : Int) := by omega
      by_cases hg : f r < f k
      · have HN := Lib.hid (best_up (by omega) HB.out hg)
        go_wp2_with (go_at_call 14; refine (HC.out _ _ hlt HBE.out).mono ?_; rintro e w2 ⟨rfl, hb⟩; have ac := HBE.out.trans (hb.mono HBE.out.size); clear hb)
        go_roundw
        case rel => exact ⟨k + 1, k, by omega, by go_num, rfl, rfl, HN.out, by assumption⟩
        case measure => simp [intOf]; omega
      · have HN := Lib.hid (best_stay HB.out hg)
        go_wp2_with (go_at_call 14; refine (HC.out _ _ hlt HBE.out).mono ?_; rintro e w2 ⟨rfl, hb⟩; have ac := HBE.out.trans (hb.mono HBE.out.size); clear hb)
        go_roundw
        case rel => exact ⟨k + 1, r, by omega, by go_num, rfl, rfl, HN.out, by assumption⟩
        case measure => simp [intOf]; omega
    · have hge : ¬ (k : Int) < (n : Int) := by omega
      go_wp2
      go_ret
      exact ⟨r, by rw [show n = k by omega]; exact HB.out, rfl, HBE.out⟩
end Go.Proofs.Ytochniaofmeheab
