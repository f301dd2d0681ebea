/- Points between two ends, of the model, whole. -/
import Derived.Test.YtcoldhdghcdaeaaBtwS0
import Derived.Test.YtcoldhdghcdaeaaBtwS1
import Derived.Test.YtcoldhdghcdaeaaBtwS2
import Derived.Test.YtcoldhdghcdaeaaBtwS3
namespace Go.Proofs.Ytcoldhdghcdaeaa
open Go.ChangeShapes Go.WideShapes Go.ChangeAt Go.RowKit Pm

theorem sl02btw_any (ax ay bx cy i n : Int) (w : World) (ha : Vd ax ay) (hb : Vd bx cy) (hn : inB 1 1000000 [n] = true) (hi : inB 0 n [i] = true) :
    Calls Try.prog 84 #[.agg #[.int .i64 ax, .int .i64 ay], .agg #[.int .i64 bx, .int .i64 cy], .int .i64 i, .int .i64 n] w fun e w' => e = .returned (.agg #[.int .i64 (btwX ax ay bx cy i n), .int .i64 (btwY ax ay bx cy i n)]) ∧ Below w.heap.size w w' := by
  unfold btwX btwY
  by_cases ht : turnedB ax ay bx cy = true
  · rw [if_pos ht, if_pos ht]
    by_cases h1 : bx < ax
    · exact sbtw_t0 ax ay bx cy i n w ha hb hn hi h1
    · have h2 : ax = bx ∧ cy < ay := by simp [turnedB] at ht; omega
      exact sbtw_t1 ax ay bx cy i n w ha hb hn hi (by simp [h2.1]) h2.2 h1
  · rw [if_neg ht, if_neg ht]
    by_cases h1 : ax < bx
    · exact sbtw_s0 ax ay bx cy i n w ha hb hn hi h1 (by simp; omega)
    · have h2 : ax = bx ∧ ay ≤ cy := by simp [turnedB] at ht; omega
      exact sbtw_s1 ax ay bx cy i n w ha hb hn hi (by simp [h2.1]) h2.2 (by omega)

end Go.Proofs.Ytcoldhdghcdaeaa
