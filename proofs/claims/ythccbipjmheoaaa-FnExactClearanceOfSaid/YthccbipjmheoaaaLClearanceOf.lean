/- The law of ClearanceOf. -/
import Derived.Test.YthccbipjmheoaaaClrW
import Derived.Test.YthccbipjmheoaaaDgrA
import Derived.Test.YthccbipjmheoaaaChn
import Derived.Test.YthccbipjmheoaaaPtsE
import Derived.Test.YthccbipjmheoaaaArgPts
namespace Go.Proofs.Ythccbipjmheoaaa
open Go.ChangeShapes Go.WideShapes Go.ChangeAt Go.RowKit Pm

set_option maxRecDepth 100000 in
set_option maxHeartbeats 2000000 in
theorem clearanceof_law (s : ByteArray) (x y z : Int) (a : Option Addr) (n k : Nat) (ps : Pts) (w : World) (hs : s.size ≤ maxLen) (h : ArgPts w a n ps ∧ n ≤ maxLen) :
    Calls Try.prog 9 #[.agg #[.string s, .int .i64 x, .int .i64 y, .int .i64 z], .slice a n k] w fun e w' => e = .returned (.bool true) ∧ Below w.heap.size w w' := by
  obtain rfl : n = ps.length := h.1.1
  have SZ := Lib.hid (fun w' => szdg_any s x y z 1048576 w' hs (by omega) (by omega))
  have G := Lib.hid h.1
  by_cases h0 : (1048576 : Int) < (s.size : Int)
  · rw [if_pos h0] at SZ
    clear h0
    go_enter Try.func9, Try.ntmps9
    go_wp2_with (go_at_call 19; (refine (SZ.out _).mono ?_); rintro e w1 ⟨rfl, hb⟩; have AC := Lib.hid (Below.next (a := w) (by go_grown) hb); clear hb)
    go_ret
    exact ⟨rfl, AC.out⟩
  rw [if_neg h0] at SZ
  obtain ⟨m, hm⟩ : ∃ m, m = (1048576 : Int) - (s.size : Int) := ⟨_, rfl⟩
  rw [← hm] at SZ
  have hn0 : ¬ m < 0 := by omega
  have SP := Lib.hid (fun w' => szpts_any a ps.length k m w' h.2 (by omega) (by omega))
  have hm2 : m ≤ 1048576 := by omega
  clear h0 h hm
  go_enter Try.func9, Try.ntmps9
  go_wp2_with (first
    | (go_at_call 19; (refine (SZ.out _).mono ?_); rintro e w1 ⟨rfl, hb⟩; have D1 := Lib.hid (show DgAt w1 w.heap.size 0 (s, x, y, z) from ⟨cell_below (a := ⟨w.heap.size, 0, none⟩) (v := .string s) (by go_cell) hb, cell_below (a := ⟨w.heap.size, 1, none⟩) (v := .int .i64 x) (by go_cell) hb, cell_below (a := ⟨w.heap.size, 2, none⟩) (v := .int .i64 y) (by go_cell) hb, cell_below (a := ⟨w.heap.size, 3, none⟩) (v := .int .i64 z) (by go_cell) hb⟩); have AC := Lib.hid (Below.next (a := w) (by go_grown) hb); clear hb)
    | (go_at_call 37; (refine (SP.out _).mono ?_); rintro e w2 ⟨r, hr, rfl, hb⟩; refine Hid.out ?_))
  refine Lib.hid ?_
  replace D1 := Lib.hid (D1.out.below hb)
  replace AC := Lib.hid (Below.next AC.out hb)
  clear hb SZ SP
  rcases hr with rfl | ⟨r0, r1, hl⟩
  · go_wp2
    go_ret
    exact ⟨rfl, AC.out⟩
  have nr : ¬ r < 0 := by omega
  have hl1 : ps.length ≤ 1048576 := by omega
  have T := Lib.hid (fun w' => todg_any s x y z w')
  have TP := Lib.hid (fun w' h => topts_own a ps.length k ps w' h hl1)
  have SPC := Lib.hid (fun w' v h => sclearance_any (s, x, y, z) v ps w' hs hl1 h)
  have IM := Lib.hid (fun w' v h => clearance_any (s, x, y, z) v ps w' hs h)
  have EQ := Lib.hid (fun w' a1 a2 c1 c2 h1 h2 => eqpts_same a1 a2 c1 c2 ps w' hl1 h1 h2)
  generalize clrA (s, x, y, z) ps = CA at *
  generalize clrE (s, x, y, z) ps = CE at *
  simp only at SPC IM
  clear r0 r1 hl hm2 hn0
  obtain ⟨x0, x1, x2, x3⟩ := D1.out
  simp only [Nat.zero_add] at x0 x1 x2 x3
  go_wp2_with (first
    | (go_at_call 21; (refine (T.out _).mono ?_); rintro e w3 ⟨rfl, hb⟩; replace D1 := Lib.hid (D1.out.below hb); replace AC := Lib.hid (Below.next AC.out hb); clear hb)
    | (go_at_call 39; (refine (TP.out _ (G.out.below AC.out)).mono ?_); rintro e w4 ⟨v1, rfl, ho, hb⟩; refine Hid.out ?_))
  refine Lib.hid ?_
  have I1 := Lib.hid ((show OwnPt w4 _ v1 ps from ho).pts hl1)
  obtain ⟨a1, c1, rfl⟩ := (show OwnPt w4 _ v1 ps from ho).form
  replace D1 := Lib.hid (D1.out.below hb)
  replace AC := Lib.hid (Below.next AC.out hb)
  clear ho hb x0 x1 x2 x3
  obtain ⟨x0, x1, x2, x3⟩ := D1.out
  simp only [Nat.zero_add] at x0 x1 x2 x3
  go_wp2_with (first
    | (go_at_call 38; (refine (SPC.out _ _ I1.out).mono ?_); rintro e w5 ⟨rfl, hb⟩; replace D1 := Lib.hid (D1.out.below hb); replace AC := Lib.hid (Below.next AC.out hb); clear hb)
    | (go_at_call 39; (refine (TP.out _ (G.out.below AC.out)).mono ?_); rintro e w6 ⟨v2, rfl, ho, hb⟩; refine Hid.out ?_))
  refine Lib.hid ?_
  have J1 := Lib.hid ((show OwnPt w6 _ v2 ps from ho).ptsc hl1)
  obtain ⟨a2, c2, rfl⟩ := (show OwnPt w6 _ v2 ps from ho).form
  replace D1 := Lib.hid (D1.out.below hb)
  replace AC := Lib.hid (Below.next AC.out hb)
  clear ho hb x0 x1 x2 x3 I1
  obtain ⟨x0, x1, x2, x3⟩ := D1.out
  simp only [Nat.zero_add] at x0 x1 x2 x3
  go_wp2_with (first
    | (go_at_call 21; (refine (T.out _).mono ?_); rintro e w7 ⟨rfl, hb⟩; replace J1 := Lib.hid (J1.out.below hb); replace AC := Lib.hid (Below.next AC.out hb); clear hb)
    | (go_at_call 40; (refine (IM.out _ _ J1.out).mono ?_); rintro e w8 ⟨rfl, hb⟩; replace J1 := Lib.hid (J1.out.below hb); replace AC := Lib.hid (Below.next AC.out hb); clear hb)
    | (go_at_call 39; (refine (TP.out _ (G.out.below AC.out)).mono ?_); rintro e w9 ⟨v3, rfl, ho, hb⟩; refine Hid.out ?_))
  refine Lib.hid ?_
  have K1 := Lib.hid ((show OwnPt w9 _ v3 ps from ho).pts hl1)
  obtain ⟨a3, c3, rfl⟩ := (show OwnPt w9 _ v3 ps from ho).form
  replace J1 := Lib.hid (J1.out.below hb)
  replace AC := Lib.hid (Below.next AC.out hb)
  clear ho hb x0 x1 x2 x3
  go_wp2_with (go_at_call 41; (refine (EQ.out _ _ _ _ _ J1.out.1.are K1.out.are).mono ?_); rintro e w10 ⟨rfl, hb⟩; replace AC := Lib.hid (Below.next AC.out hb); clear hb)
  go_ret
  exact ⟨rfl, AC.out⟩
end Go.Proofs.Ythccbipjmheoaaa
