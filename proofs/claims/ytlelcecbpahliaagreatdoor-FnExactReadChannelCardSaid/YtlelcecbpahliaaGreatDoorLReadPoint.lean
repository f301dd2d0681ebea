/- The law of ReadPoint. -/
import Derived.Test.YtlelcecbpahliaaGreatDoorRdPtS
namespace Go.Proofs.YtlelcecbpahliaaGreatDoor
open Go.ChangeShapes Go.WideShapes Go.ChangeAt Go.RowKit Pm

theorem sl02read_any (s : ByteArray) (w : World) (hs : s.size ≤ 1048576) :
    Calls Tryz.prog 64 #[.string s] w fun e w' => e = .returned (.tuple #[.agg #[.int .i64 (rpV (cutS 44 s)).1.1, .int .i64 (rpV (cutS 44 s)).1.2], .bool (rpV (cutS 44 s)).2]) ∧ Below w.heap.size w w' := by
  have hI := ssplit_any s 44 (w.alloc (.cells #[.int .i64 0, .int .i64 0] 44)) hs
  by_cases hl : (cutS 44 s).length = 2
  · obtain ⟨p, q, hpq⟩ := two_of _ hl
    have hp : p.size ≤ maxLen := by have := cutS_part 44 s p (by rw [hpq]; simp); unfold maxLen; omega
    have hq : q.size ≤ maxLen := by have := cutS_part 44 s q (by rw [hpq]; simp); unfold maxLen; omega
    rw [hpq] at hI ⊢
    cases k1 : canS p
    · exact sread_two0 s p q w hp hq k1 hI
    · cases k2 : canS q
      · exact sread_two1 s p q w hp hq k1 k2 hI
      · cases k3 : inB 0 200000 [numP p, numP q]
        · exact sread_two2 s p q w hp hq k1 k2 k3 hI
        · exact sread_two3 s p q w hp hq k1 k2 k3 hI
  · exact sread_len s _ w hl hI

theorem readpoint_any (s : ByteArray) (w : World) (hs : s.size ≤ 1048576) (hL : LenAt w) (hP : PowAt w) (hE : ErrsAt w) :
    Calls Tryz.prog 35 #[.string s] w fun e w' => e = .returned (.tuple #[.agg #[.int .i64 (rpV (cutS 44 s)).1.1, .int .i64 (rpV (cutS 44 s)).1.2], .bool (rpV (cutS 44 s)).2]) ∧ Below w.heap.size w w' := by
  have hb : Below w.heap.size w (w.alloc (.cells #[.int .i64 0, .int .i64 0] 44)) := by go_grown
  have hI := readlist_any s (w.alloc (.cells #[.int .i64 0, .int .i64 0] 44)) hs (hL.below hb) (hP.below hb) (hE.below hb)
  rw [← rz_rp]
  have hI2 : Calls Tryz.prog 69 #[.string s] (w.alloc (.cells #[.int .i64 0, .int .i64 0] 44)) (RL (rlZ s) (rlB s) (w.alloc (.cells #[.int .i64 0, .int .i64 0] 44))) := hI
  generalize rlZ s = zs at *
  generalize rlB s = b at *
  cases b
  · exact readpoint_false s zs w hI2
  · by_cases hl : zs.length = 2
    · obtain ⟨x, y, rfl⟩ := two_of _ hl
      cases h : inB 0 200000 [x, y]
      · exact readpoint_two0 s x y w h hI2
      · exact readpoint_two1 s x y w h hI2
    · exact readpoint_len s zs w hl hI2


end Go.Proofs.YtlelcecbpahliaaGreatDoor
