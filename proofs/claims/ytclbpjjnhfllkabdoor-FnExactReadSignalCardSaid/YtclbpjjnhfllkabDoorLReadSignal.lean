/- The law of ReadSignal. -/
import Derived.Test.YtclbpjjnhfllkabDoorRsgU
import Derived.Test.YtclbpjjnhfllkabDoorRsgK
import Derived.Test.YtclbpjjnhfllkabDoorPhsA
import Derived.Stop.LaidErr
namespace Go.Proofs.YtclbpjjnhfllkabDoor
open Go.ChangeShapes Go.WideShapes Go.ChangeAt Go.RowKit Pm

set_option maxHeartbeats 1000000 in
theorem readsignal_law (a1 : Option Addr) (n1 c1 : Nat) (ps : List Ph) (d : Int) (w : World) (h1 : GotPh w a1 n1 ps) (hL : laidMetH Tryd.prog Rows.fnExactReadSignalRow.laid w) (hsh : w.ShapedOpen Tryd.prog) :
    Calls Tryd.prog 4 #[.slice a1 n1 c1, .int .i64 d] w fun e w' => e = .returned (.bool true) ∧ Below w.heap.size w w' := by
  rw [MakeChecks.laidMetH_plain _ _ _ (by kernel_rfl)] at hL
  have HT := Lib.hid (signs_of hL.tail)
  clear hL
  have HM := Lib.hid (lenR_of hsh)
  clear hsh
  have G1 := Lib.hid h1
  clear h1
  go_enter Tryd.func4, Tryd.ntmps4
  go_wp2_with (go_at_call 11; refine (szphs_any _ _ _ ps 1048576 _ G1.out.arg G1.out.len G1.out.sz (by omega) (by omega)).mono ?_; rintro e w1 ⟨r, hr, rfl, hb⟩; refine Hid.out ?_)
  refine Lib.hid ?_
  have AC := Lib.hid hb
  have G1 := Lib.hid (G1.out.below hb)
  have HM := Lib.hid (HM.out.below hb)
  have HT := Lib.hid (HT.out.below hb)
  clear hb
  rcases hr with rfl | ⟨r0, r1, l1, _⟩
  · go_wp2
    go_ret
    exact ⟨rfl, AC.out⟩
  · have nr : ¬ r < 0 := by omega
    have hl1 : ps.length ≤ 1048576 := by omega
    clear r1 l1
    clear r0
    have hbd : ∀ i, i < ps.length → -9223372036854775808 ≤ (ps.getD i ph0).2 ∧ (ps.getD i ph0).2 ≤ 9223372036854775807 := fun i hi => by
      have := bounds_i64 (G1.out.wf i hi)
      omega
    have HS := Lib.hid (fun w v h => sread_any v ps d w hl1 hbd h)
    have HI := Lib.hid (fun w v h hn ht => readsig_any v ps d w hl1 h hn ht)
    obtain ⟨z, hz⟩ : ∃ z, z = rdT ps d := ⟨_, rfl⟩
    obtain ⟨cc, hcc⟩ : ∃ cc, cc = rdC ps d := ⟨_, rfl⟩
    rw [← hz, ← hcc] at HS HI
    clear hz hcc hbd
    go_wp2_with (go_at_call 13; refine (tophs_any _ _ _ ps _ G1.out.arg hl1).mono ?_; rintro e wz1 ⟨v1, rfl, o, hb⟩; refine Hid.out ?_)
    refine Lib.hid ?_
    have G1 := Lib.hid (G1.out.below hb)
    have HM := Lib.hid (HM.out.below hb)
    have HT := Lib.hid (HT.out.below hb)
    have AC := Lib.hid (Below.next AC.out hb)
    have V1 := Lib.hid (o.are)
    clear hb
    go_wp2_with (go_at_call 12; refine (HS.out _ _ V1.out).mono ?_; rintro e wz2 ⟨rfl, hb⟩; refine Hid.out ?_)
    refine Lib.hid ?_
    have G1 := Lib.hid (G1.out.below hb)
    have HM := Lib.hid (HM.out.below hb)
    have HT := Lib.hid (HT.out.below hb)
    have V1 := Lib.hid (V1.out.below hb)
    have AC := Lib.hid (Below.next AC.out hb)
    clear hb
    clear V1
    go_wp2_with (go_at_call 13; refine (tophs_any _ _ _ ps _ G1.out.arg hl1).mono ?_; rintro e wz3 ⟨v2, rfl, o, hb⟩; refine Hid.out ?_)
    refine Lib.hid ?_
    have G1 := Lib.hid (G1.out.below hb)
    have HM := Lib.hid (HM.out.below hb)
    have HT := Lib.hid (HT.out.below hb)
    have AC := Lib.hid (Below.next AC.out hb)
    have V1 := Lib.hid (o.are)
    clear hb
    go_wp2_with (go_at_call 14; refine (HI.out _ _ V1.out HM.out HT.out).mono ?_; rintro e wz4 ⟨rfl, hb⟩; refine Hid.out ?_)
    refine Lib.hid ?_
    have G1 := Lib.hid (G1.out.below hb)
    have HM := Lib.hid (HM.out.below hb)
    have HT := Lib.hid (HT.out.below hb)
    have V1 := Lib.hid (V1.out.below hb)
    have AC := Lib.hid (Below.next AC.out hb)
    clear hb
    go_wp2_with (go_at_call 13; refine (tophs_any _ _ _ ps _ G1.out.arg hl1).mono ?_; rintro e wz5 ⟨v3, rfl, o, hb⟩; refine Hid.out ?_)
    refine Lib.hid ?_
    have G1 := Lib.hid (G1.out.below hb)
    have HM := Lib.hid (HM.out.below hb)
    have HT := Lib.hid (HT.out.below hb)
    have V1 := Lib.hid (V1.out.below hb)
    have AC := Lib.hid (Below.next AC.out hb)
    have V2 := Lib.hid (o.are)
    clear hb
    go_wp2_with (go_at_call 15; refine (eqphs_same _ _ ps _ hl1 V1.out V2.out).mono ?_; rintro e wz6 ⟨rfl, hb⟩; refine Hid.out ?_)
    refine Lib.hid ?_
    have G1 := Lib.hid (G1.out.below hb)
    have HM := Lib.hid (HM.out.below hb)
    have HT := Lib.hid (HT.out.below hb)
    have V1 := Lib.hid (V1.out.below hb)
    have V2 := Lib.hid (V2.out.below hb)
    have AC := Lib.hid (Below.next AC.out hb)
    clear hb
    go_wp2
    go_ret
    exact ⟨rfl, AC.out⟩
end Go.Proofs.YtclbpjjnhfllkabDoor
