/- The law of ColorsOf. -/
import Derived.Test.YtclbpjjnhfllkaaDoorColI
import Derived.Test.YtclbpjjnhfllkaaDoorSctA
namespace Go.Proofs.YtclbpjjnhfllkaaDoor
open Go.ChangeShapes Go.WideShapes Go.ChangeAt Go.RowKit Pm

set_option maxHeartbeats 1000000 in
theorem colorsof_law (a1 : Option Addr) (n1 c1 : Nat) (ps : List Sec) (w : World) (h1 : GotSec w a1 n1 ps) :
    Calls Tryd.prog 3 #[.slice a1 n1 c1] w fun e w' => e = .returned (.bool true) ∧ Below w.heap.size w w' := by
  have G1 := Lib.hid h1
  clear h1
  go_enter Tryd.func3, Tryd.ntmps3
  go_wp2_with (go_at_call 5; refine (szsecs_any _ _ _ ps 1048576 _ G1.out.arg G1.out.len G1.out.sz (by omega) (by omega)).mono ?_; rintro e w1 ⟨r, hr, rfl, hb⟩; refine Hid.out ?_)
  refine Lib.hid ?_
  have AC := Lib.hid hb
  have G1 := Lib.hid (G1.out.below hb)
  clear hb
  rcases hr with rfl | ⟨r0, r1, l1, _⟩
  · go_wp2
    go_ret
    exact ⟨rfl, AC.out⟩
  · have nr : ¬ r < 0 := by omega
    have hl1 : ps.length ≤ 1048576 := by omega
    clear r1 l1
    clear r0
    have HS := Lib.hid (fun w v h => scolorsof_any v ps w hl1 h)
    have HI := Lib.hid (fun w v h => colorsof_any v ps w h)
    obtain ⟨z, hz⟩ : ∃ z, z = colsV ps := ⟨_, rfl⟩
    obtain ⟨cc, hcc⟩ : ∃ cc, cc = colsC ps := ⟨_, rfl⟩
    rw [← hz, ← hcc] at HS HI
    clear hz hcc
    go_wp2_with (go_at_call 7; refine (tosecs_any _ _ _ ps _ G1.out.arg hl1).mono ?_; rintro e wz1 ⟨v1, rfl, o, hb⟩; refine Hid.out ?_)
    refine Lib.hid ?_
    have G1 := Lib.hid (G1.out.below hb)
    have AC := Lib.hid (Below.next AC.out hb)
    have V1 := Lib.hid (o.are)
    clear hb
    go_wp2_with (go_at_call 6; refine (HS.out _ _ V1.out).mono ?_; rintro e wz2 ⟨rfl, hb⟩; refine Hid.out ?_)
    refine Lib.hid ?_
    have G1 := Lib.hid (G1.out.below hb)
    have V1 := Lib.hid (V1.out.below hb)
    have AC := Lib.hid (Below.next AC.out hb)
    clear hb
    clear V1
    go_wp2_with (go_at_call 7; refine (tosecs_any _ _ _ ps _ G1.out.arg hl1).mono ?_; rintro e wz3 ⟨v2, rfl, o, hb⟩; refine Hid.out ?_)
    refine Lib.hid ?_
    have G1 := Lib.hid (G1.out.below hb)
    have AC := Lib.hid (Below.next AC.out hb)
    have V1 := Lib.hid (o.are)
    clear hb
    go_wp2_with (go_at_call 8; refine (HI.out _ _ V1.out).mono ?_; rintro e wz4 ⟨rfl, hb⟩; refine Hid.out ?_)
    refine Lib.hid ?_
    have G1 := Lib.hid (G1.out.below hb)
    have V1 := Lib.hid (V1.out.below hb)
    have AC := Lib.hid (Below.next AC.out hb)
    clear hb
    go_wp2_with (go_at_call 7; refine (tosecs_any _ _ _ ps _ G1.out.arg hl1).mono ?_; rintro e wz5 ⟨v3, rfl, o, hb⟩; refine Hid.out ?_)
    refine Lib.hid ?_
    have G1 := Lib.hid (G1.out.below hb)
    have V1 := Lib.hid (V1.out.below hb)
    have AC := Lib.hid (Below.next AC.out hb)
    have V2 := Lib.hid (o.are)
    clear hb
    go_wp2_with (go_at_call 9; refine (eqsecs_same _ _ ps _ hl1 V1.out V2.out).mono ?_; rintro e wz6 ⟨rfl, hb⟩; refine Hid.out ?_)
    refine Lib.hid ?_
    have G1 := Lib.hid (G1.out.below hb)
    have V1 := Lib.hid (V1.out.below hb)
    have V2 := Lib.hid (V2.out.below hb)
    have AC := Lib.hid (Below.next AC.out hb)
    clear hb
    go_wp2
    go_ret
    exact ⟨rfl, AC.out⟩
end Go.Proofs.YtclbpjjnhfllkaaDoor
