/- The law of SameSectors. -/
import Derived.Test.YtclbpjjnhfllkaaSctE
import Derived.Test.YtclbpjjnhfllkaaSctA
namespace Go.Proofs.Ytclbpjjnhfllkaa
open Go.ChangeShapes Go.WideShapes Go.ChangeAt Go.RowKit Pm

theorem ssamesectors_any (v1 v2 : Value) (ps qs : List Sec) (w : World) (hm : ps.length ≤ 1048576) (h1 : SecAre w v1 ps) (h2 : SecAre w v2 qs) :
    Calls Try.prog 22 #[v1, v2] w fun e w' => e = .returned (.bool (sameS ps qs)) ∧ Below w.heap.size w w' := by
  obtain ⟨a1, c1, rfl, h1⟩ := h1
  obtain ⟨a2, c2, rfl, h2⟩ := h2
  exact (ssames_at a1 a2 c1 c2 ps qs w hm h1 h2).mono fun _ _ h => h.below
theorem samesectors_any (v1 v2 : Value) (ps qs : List Sec) (w : World) (hm : ps.length ≤ 1048576) (h1 : SecAre w v1 ps) (h2 : SecAre w v2 qs) :
    Calls Try.prog 23 #[v1, v2] w fun e w' => e = .returned (.bool (sameS ps qs)) ∧ Below w.heap.size w w' := by
  obtain ⟨a1, c1, rfl, h1⟩ := h1
  obtain ⟨a2, c2, rfl, h2⟩ := h2
  have H := Lib.hid (equals_at a1 a2 c1 c2 ps qs w hm h1 h2)
  clear h1 h2
  go_enter Try.func23, Try.ntmps23
  go_wp2_with (go_at_call 44; refine H.out.mono ?_; rintro e w1 ⟨rfl, m, rfl⟩)
  go_ret
  exact ⟨rfl, below_drewN (Below.refl _ _) m⟩

set_option maxHeartbeats 1000000 in
theorem samesectors_law (a1 a2 : Option Addr) (n1 n2 c1 c2 : Nat) (ps qs : List Sec) (w : World) (h1 : GotSec w a1 n1 ps) (h2 : GotSec w a2 n2 qs) :
    Calls Try.prog 5 #[.slice a1 n1 c1, .slice a2 n2 c2] w fun e w' => e = .returned (.bool true) ∧ Below w.heap.size w w' := by
  have G1 := Lib.hid h1
  have G2 := Lib.hid h2
  clear h1 h2
  go_enter Try.func5, Try.ntmps5
  go_wp2_with (go_at_call 17; refine (szsecs_any _ _ _ ps 1048576 _ G1.out.arg G1.out.len G1.out.sz (by omega) (by omega)).mono ?_; rintro e w1 ⟨r, hr, rfl, hb⟩; refine Hid.out ?_)
  refine Lib.hid ?_
  have AC := Lib.hid hb
  have G1 := Lib.hid (G1.out.below hb)
  have G2 := Lib.hid (G2.out.below hb)
  clear hb
  rcases hr with rfl | ⟨r0, r1, l1, _⟩
  · go_wp2
    go_ret
    exact ⟨rfl, AC.out⟩
  · have nr : ¬ r < 0 := by omega
    have hl1 : ps.length ≤ 1048576 := by omega
    clear l1
    go_wp2_with (go_at_call 17; refine (szsecs_any _ _ _ qs r _ G2.out.arg G2.out.len G2.out.sz (by omega) (by omega)).mono ?_; rintro e w2 ⟨q, hq, rfl, hb⟩; refine Hid.out ?_)
    refine Lib.hid ?_
    have AC := Lib.hid (Below.next AC.out hb)
    have G1 := Lib.hid (G1.out.below hb)
    have G2 := Lib.hid (G2.out.below hb)
    clear hb nr
    rcases hq with rfl | ⟨q0, q1, l2, _⟩
    · go_wp2
      go_ret
      exact ⟨rfl, AC.out⟩
    · have nq : ¬ q < 0 := by omega
      have hl2 : qs.length ≤ 1048576 := by omega
      clear r0 r1 q0 q1 l2
      obtain ⟨b, hb0⟩ : ∃ b, b = sameS ps qs := ⟨_, rfl⟩
      have HS := Lib.hid (fun w v1 v2 h1 h2 => ssamesectors_any v1 v2 ps qs w hl1 h1 h2)
      have HI := Lib.hid (fun w v1 v2 h1 h2 => samesectors_any v1 v2 ps qs w hl1 h1 h2)
      rw [← hb0] at HS HI
      clear hb0
      go_wp2_with (go_at_call 19; refine (tosecs_any _ _ _ ps _ G1.out.arg hl1).mono ?_; rintro e wz1 ⟨v1, rfl, o, hb⟩; refine Hid.out ?_)
      refine Lib.hid ?_
      have G1 := Lib.hid (G1.out.below hb)
      have G2 := Lib.hid (G2.out.below hb)
      have AC := Lib.hid (Below.next AC.out hb)
      have V1 := Lib.hid (o.are)
      clear hb
      go_wp2_with (go_at_call 19; refine (tosecs_any _ _ _ qs _ G2.out.arg hl2).mono ?_; rintro e wz2 ⟨v2, rfl, o, hb⟩; refine Hid.out ?_)
      refine Lib.hid ?_
      have G1 := Lib.hid (G1.out.below hb)
      have G2 := Lib.hid (G2.out.below hb)
      have V1 := Lib.hid (V1.out.below hb)
      have AC := Lib.hid (Below.next AC.out hb)
      have V2 := Lib.hid (o.are)
      clear hb
      go_wp2_with (go_at_call 22; refine (HS.out _ _ _ V1.out V2.out).mono ?_; rintro e wz3 ⟨rfl, hb⟩; refine Hid.out ?_)
      refine Lib.hid ?_
      have G1 := Lib.hid (G1.out.below hb)
      have G2 := Lib.hid (G2.out.below hb)
      have V1 := Lib.hid (V1.out.below hb)
      have V2 := Lib.hid (V2.out.below hb)
      have AC := Lib.hid (Below.next AC.out hb)
      clear hb
      clear V1 V2
      go_wp2_with (go_at_call 19; refine (tosecs_any _ _ _ ps _ G1.out.arg hl1).mono ?_; rintro e wz4 ⟨v3, rfl, o, hb⟩; refine Hid.out ?_)
      refine Lib.hid ?_
      have G1 := Lib.hid (G1.out.below hb)
      have G2 := Lib.hid (G2.out.below hb)
      have AC := Lib.hid (Below.next AC.out hb)
      have V1 := Lib.hid (o.are)
      clear hb
      go_wp2_with (go_at_call 19; refine (tosecs_any _ _ _ qs _ G2.out.arg hl2).mono ?_; rintro e wz5 ⟨v4, rfl, o, hb⟩; refine Hid.out ?_)
      refine Lib.hid ?_
      have G1 := Lib.hid (G1.out.below hb)
      have G2 := Lib.hid (G2.out.below hb)
      have V1 := Lib.hid (V1.out.below hb)
      have AC := Lib.hid (Below.next AC.out hb)
      have V2 := Lib.hid (o.are)
      clear hb
      go_wp2_with (go_at_call 23; refine (HI.out _ _ _ V1.out V2.out).mono ?_; rintro e wz6 ⟨rfl, hb⟩; refine Hid.out ?_)
      refine Lib.hid ?_
      have G1 := Lib.hid (G1.out.below hb)
      have G2 := Lib.hid (G2.out.below hb)
      have V1 := Lib.hid (V1.out.below hb)
      have V2 := Lib.hid (V2.out.below hb)
      have AC := Lib.hid (Below.next AC.out hb)
      clear hb
      go_wp2_with (go_at_call 19; refine (tosecs_any _ _ _ ps _ G1.out.arg hl1).mono ?_; rintro e wz7 ⟨v5, rfl, o, hb⟩; refine Hid.out ?_)
      refine Lib.hid ?_
      have G1 := Lib.hid (G1.out.below hb)
      have G2 := Lib.hid (G2.out.below hb)
      have V1 := Lib.hid (V1.out.below hb)
      have V2 := Lib.hid (V2.out.below hb)
      have AC := Lib.hid (Below.next AC.out hb)
      have V3 := Lib.hid (o.are)
      clear hb
      go_wp2_with (go_at_call 21; refine (eqsecs_same _ _ ps _ hl1 V1.out V3.out).mono ?_; rintro e wz8 ⟨rfl, hb⟩; refine Hid.out ?_)
      refine Lib.hid ?_
      have G1 := Lib.hid (G1.out.below hb)
      have G2 := Lib.hid (G2.out.below hb)
      have V1 := Lib.hid (V1.out.below hb)
      have V2 := Lib.hid (V2.out.below hb)
      have V3 := Lib.hid (V3.out.below hb)
      have AC := Lib.hid (Below.next AC.out hb)
      clear hb
      go_wp2_with (go_at_call 19; refine (tosecs_any _ _ _ qs _ G2.out.arg hl2).mono ?_; rintro e wz9 ⟨v6, rfl, o, hb⟩; refine Hid.out ?_)
      refine Lib.hid ?_
      have G1 := Lib.hid (G1.out.below hb)
      have G2 := Lib.hid (G2.out.below hb)
      have V1 := Lib.hid (V1.out.below hb)
      have V2 := Lib.hid (V2.out.below hb)
      have V3 := Lib.hid (V3.out.below hb)
      have AC := Lib.hid (Below.next AC.out hb)
      have V4 := Lib.hid (o.are)
      clear hb
      go_wp2_with (go_at_call 21; refine (eqsecs_same _ _ qs _ hl2 V2.out V4.out).mono ?_; rintro e wz10 ⟨rfl, hb⟩; refine Hid.out ?_)
      refine Lib.hid ?_
      have G1 := Lib.hid (G1.out.below hb)
      have G2 := Lib.hid (G2.out.below hb)
      have V1 := Lib.hid (V1.out.below hb)
      have V2 := Lib.hid (V2.out.below hb)
      have V3 := Lib.hid (V3.out.below hb)
      have V4 := Lib.hid (V4.out.below hb)
      have AC := Lib.hid (Below.next AC.out hb)
      clear hb
      go_wp2
      go_ret
      exact ⟨rfl, AC.out⟩
end Go.Proofs.Ytclbpjjnhfllkaa
