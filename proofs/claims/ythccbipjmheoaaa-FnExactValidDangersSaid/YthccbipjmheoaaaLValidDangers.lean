/- The law of ValidDangers. -/
import Derived.Test.YthccbipjmheoaaaOrdS
import Derived.Test.YthccbipjmheoaaaDgrA
namespace Go.Proofs.Ythccbipjmheoaaa
open Go.ChangeShapes Go.WideShapes Go.ChangeAt Go.RowKit Pm

set_option maxHeartbeats 1000000 in
theorem validdangers_law (a1 : Option Addr) (n1 c1 : Nat) (ps : List Dg) (w : World) (h1 : GotDg w a1 n1 ps) :
    Calls Try.prog 6 #[.slice a1 n1 c1] w fun e w' => e = .returned (.bool true) ∧ Below w.heap.size w w' := by
  have G1 := Lib.hid h1
  clear h1
  go_enter Try.func6, Try.ntmps6
  go_wp2_with (go_at_call 23; refine (szdgs_any _ _ _ 1048576 ps _ G1.out.len G1.out.sz (by omega) (by omega) G1.out.arg).mono ?_; rintro e w1 ⟨r, hr, rfl, hb⟩; refine Hid.out ?_)
  refine Lib.hid ?_
  have AC := Lib.hid hb
  have G1 := Lib.hid (G1.out.below hb)
  clear hb
  rcases hr with rfl | ⟨r0, r1, l1, l2⟩
  · go_wp2
    go_ret
    exact ⟨rfl, AC.out⟩
  · have nr : ¬ r < 0 := by omega
    have hl1 : ps.length ≤ 1048576 := by omega
    have hsz : ∀ i, i < ps.length → (ps.getD i dg0).1.size ≤ maxLen := fun i hi => by rw [dg_getD _ _ hi]; exact G1.out.sz _ (List.getElem_mem hi)
    clear r1 l1 l2
    clear r0
    have HS := Lib.hid (fun w v h => svaliddgs_any v ps w hl1 hsz h)
    have HI := Lib.hid (fun w v h => validdgs_any v ps w hl1 hsz h)
    obtain ⟨b, hb0⟩ : ∃ b, b = validDs ps := ⟨_, rfl⟩
    rw [← hb0] at HS HI
    clear hb0
    clear hsz
    go_wp2_with (go_at_call 25; refine (todgs_any _ _ _ ps _ G1.out.arg hl1).mono ?_; rintro e wz1 ⟨v1, rfl, o, hb⟩; refine Hid.out ?_)
    refine Lib.hid ?_
    have G1 := Lib.hid (G1.out.below hb)
    have AC := Lib.hid (Below.next AC.out hb)
    have V1 := Lib.hid (o.are)
    clear hb
    go_wp2_with (go_at_call 24; refine (HS.out _ _ V1.out).mono ?_; rintro e wz2 ⟨rfl, hb⟩; refine Hid.out ?_)
    refine Lib.hid ?_
    have G1 := Lib.hid (G1.out.below hb)
    have V1 := Lib.hid (V1.out.below hb)
    have AC := Lib.hid (Below.next AC.out hb)
    clear hb
    clear V1
    go_wp2_with (go_at_call 25; refine (todgs_any _ _ _ ps _ G1.out.arg hl1).mono ?_; rintro e wz3 ⟨v2, rfl, o, hb⟩; refine Hid.out ?_)
    refine Lib.hid ?_
    have G1 := Lib.hid (G1.out.below hb)
    have AC := Lib.hid (Below.next AC.out hb)
    have V1 := Lib.hid (o.are)
    clear hb
    go_wp2_with (go_at_call 26; refine (HI.out _ _ V1.out).mono ?_; rintro e wz4 ⟨rfl, hb⟩; refine Hid.out ?_)
    refine Lib.hid ?_
    have G1 := Lib.hid (G1.out.below hb)
    have V1 := Lib.hid (V1.out.below hb)
    have AC := Lib.hid (Below.next AC.out hb)
    clear hb
    go_wp2_with (go_at_call 25; refine (todgs_any _ _ _ ps _ G1.out.arg hl1).mono ?_; rintro e wz5 ⟨v3, rfl, o, hb⟩; refine Hid.out ?_)
    refine Lib.hid ?_
    have G1 := Lib.hid (G1.out.below hb)
    have V1 := Lib.hid (V1.out.below hb)
    have AC := Lib.hid (Below.next AC.out hb)
    have V2 := Lib.hid (o.are)
    clear hb
    go_wp2_with (go_at_call 27; refine (eqdgs_same _ _ ps _ hl1 V1.out V2.out).mono ?_; rintro e wz6 ⟨rfl, hb⟩; refine Hid.out ?_)
    refine Lib.hid ?_
    have G1 := Lib.hid (G1.out.below hb)
    have V1 := Lib.hid (V1.out.below hb)
    have V2 := Lib.hid (V2.out.below hb)
    have AC := Lib.hid (Below.next AC.out hb)
    clear hb
    go_wp2
    go_ret
    exact ⟨rfl, AC.out⟩
end Go.Proofs.Ythccbipjmheoaaa
