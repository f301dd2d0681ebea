/- Points between two ends, of the program, whole. -/
import Derived.Test.YtcoldhdghcdaeaaBtwY0
import Derived.Test.YtcoldhdghcdaeaaBtwY1
import Derived.Test.YtcoldhdghcdaeaaBtwY2
import Derived.Test.YtcoldhdghcdaeaaBtwY3
namespace Go.Proofs.Ytcoldhdghcdaeaa
open Go.ChangeShapes Go.WideShapes Go.ChangeAt Go.RowKit Pm

theorem between_any (ax ay bx cy i n : Int) (w : World) :
    Calls Try.prog 86 #[.agg #[.int .i64 ax, .int .i64 ay], .agg #[.int .i64 bx, .int .i64 cy], .int .i64 i, .int .i64 n] w fun e w' => e = .returned (.tuple #[.agg #[.int .i64 (btwPX ax ay bx cy i n), .int .i64 (btwPY ax ay bx cy i n)], .int .i64 (btwE ax ay bx cy i n)]) ∧ Below w.heap.size w w' := by
  by_cases hE : btwE ax ay bx cy i n = 0
  · have hc : (okB (ax, ay) && okB (bx, cy)) = true := by
      cases h : (okB (ax, ay) && okB (bx, cy))
      · rw [btwE1 h] at hE; exact absurd hE (by decide)
      · rfl
    have hr : okRange i n = true := by
      cases h : okRange i n
      · rw [btwE2 hc h] at hE; exact absurd hE (by decide)
      · rfl
    have hX : btwPX ax ay bx cy i n = btwX ax ay bx cy i n := by unfold btwPX; rw [if_pos hE]
    have hY : btwPY ax ay bx cy i n = btwY ax ay bx cy i n := by unfold btwPY; rw [if_pos hE]
    simp [okB] at hc
    simp [okRange] at hr
    have ha := vd_of hc.1
    have hb := vd_of hc.2
    rw [hX, hY, hE]
    unfold btwX btwY
    by_cases ht : turnedB ax ay bx cy = true
    · rw [if_pos ht, if_pos ht]
      by_cases h1 : bx < ax
      · exact between_t0 ax ay bx cy i n w ha hb hr.1 hr.2 h1
      · have h2 : ax = bx ∧ cy < ay := by simp [turnedB] at ht; omega
        exact between_t1 ax ay bx cy i n w ha hb hr.1 hr.2 (by simp [h2.1]) h2.2 h1
    · rw [if_neg ht, if_neg ht]
      by_cases h1 : ax < bx
      · exact between_s0 ax ay bx cy i n w ha hb hr.1 hr.2 h1 (by simp; omega)
      · have h2 : ax = bx ∧ ay ≤ cy := by simp [turnedB] at ht; omega
        exact between_s1 ax ay bx cy i n w ha hb hr.1 hr.2 (by simp [h2.1]) h2.2 (by omega)
  · exact between_no ax ay bx cy i n w hE
end Go.Proofs.Ytcoldhdghcdaeaa
