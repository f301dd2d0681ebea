/- The law of DarkArcs. -/
import Derived.Test.YtclbpjjnhfllkaaMrgI
import Derived.Test.YtclbpjjnhfllkaaSctK
import Derived.Test.YtclbpjjnhfllkaaSctA
namespace Go.Proofs.Ytclbpjjnhfllkaa
open Go.ChangeShapes Go.WideShapes Go.ChangeAt Go.RowKit Pm

theorem drkv_len (ps : List Sec) : (drkV ps).length ≤ 1048576 := by
  have h := simp_len (cF (circL ps)) true
  unfold drkV
  split
  · omega
  · simp
set_option maxHeartbeats 2000000 in
theorem darkarcs_law (a1 : Option Addr) (n1 c1 : Nat) (ps : List Sec) (w : World) (h1 : GotSec w a1 n1 ps) :
    Calls Try.prog 9 #[.slice a1 n1 c1] w fun e w' => e = .returned (.bool true) ∧ Below w.heap.size w w' := by
  have G1 := Lib.hid h1
  clear h1
  go_enter Try.func9, Try.ntmps9
  go_wp2_with (go_at_call 17; refine (szsecs_any _ _ _ ps 1048576 _ G1.out.arg G1.out.len G1.out.sz (by omega) (by omega)).mono ?_; rintro e w1 ⟨r, hr, rfl, hb⟩; refine Hid.out ?_)
  refine Lib.hid ?_
  have AC := Lib.hid hb
  have G1 := Lib.hid (G1.out.below hb)
  clear hb
  rcases hr with rfl | ⟨r0, r1, l1, _⟩
  · go_wp2
    go_ret
    exact ⟨rfl, AC.out⟩
  · have nr : ¬ r < 0 := by omega
    have hl1 : ps.length ≤ 1048576 := by omega
    clear r1 l1
    clear r0
    have HS := Lib.hid (fun w v h => sdark_any v ps w hl1 h)
    have HI := Lib.hid (fun w v h => darksec_any v ps w h)
    have hm := drkv_len ps
    obtain ⟨L, hL⟩ : ∃ L, L = drkV ps := ⟨_, rfl⟩
    obtain ⟨cc, hcc⟩ : ∃ cc, cc = valC ps := ⟨_, rfl⟩
    rw [← hL, ← hcc] at HS HI
    rw [← hL] at hm
    clear hL hcc
    go_wp2_with (go_at_call 19; refine (tosecs_any _ _ _ ps _ G1.out.arg hl1).mono ?_; rintro e wz ⟨v1, rfl, o, hb⟩; refine Hid.out ?_)
    refine Lib.hid ?_
    have G1 := Lib.hid (G1.out.below hb)
    have AC := Lib.hid (Below.next AC.out hb)
    have V1 := Lib.hid (o.are)
    clear o hb
    go_wp2_with (go_at_call 30; refine (HS.out _ _ V1.out).mono ?_; rintro e wz ⟨v2, rfl, o, hb⟩; refine Hid.out ?_)
    refine Lib.hid ?_
    have G1 := Lib.hid (G1.out.below hb)
    have AC := Lib.hid (Below.next AC.out hb)
    have O1 := Lib.hid (o)
    clear o hb V1
    obtain ⟨wb, hwb⟩ : ∃ wb, wb = wz := ⟨_, rfl⟩
    rw [← hwb] at G1 AC O1 ⊢
    clear hwb
    go_wp2_with (go_at_call 19; refine (tosecs_any _ _ _ ps _ G1.out.arg hl1).mono ?_; rintro e wz ⟨v3, rfl, o, hb⟩; refine Hid.out ?_)
    refine Lib.hid ?_
    have OX := Lib.hid (o)
    have BK := Lib.hid (OwnSec.block o)
    have BC := Lib.hid (hb)
    have SZ := Lib.hid (hb.size)
    clear o hb
    go_wp2_with (go_at_call 31; refine (HI.out _ _ OX.out.are).mono ?_; rintro e wz ⟨v4, rfl, o, hb⟩; refine Hid.out ?_)
    refine Lib.hid ?_
    have O2 := Lib.hid (o)
    have OX := Lib.hid (OX.out.below hb)
    have BC := Lib.hid (Below.next BC.out hb)
    clear o hb
    go_wp2_with (go_at_call 21; refine (eqsecs_same _ _ L _ hm O2.out.are (O1.out.below BC.out).are).mono ?_; rintro e wz ⟨rfl, hb⟩; refine Hid.out ?_)
    refine Lib.hid ?_
    have O2 := Lib.hid (O2.out.below hb)
    have OX := Lib.hid (OX.out.below hb)
    have BC := Lib.hid (Below.next BC.out hb)
    clear hb
    go_wp2_with (go_at_call 19; refine (tosecs_any _ _ _ ps _ (G1.out.below BC.out).arg hl1).mono ?_; rintro e wz ⟨v5, rfl, o, hb⟩; refine Hid.out ?_)
    refine Lib.hid ?_
    have O2 := Lib.hid (O2.out.below hb)
    have OX := Lib.hid (OX.out.below hb)
    have BC := Lib.hid (Below.next BC.out hb)
    have V5 := Lib.hid (o.are)
    clear o hb
    go_wp2_with (go_at_call 21; refine (eqsecs_same _ _ ps _ hl1 OX.out.are V5.out).mono ?_; rintro e wz ⟨rfl, hb⟩; refine Hid.out ?_)
    refine Lib.hid ?_
    have O2 := Lib.hid (O2.out.below hb)
    have OX := Lib.hid (OX.out.below hb)
    have BC := Lib.hid (Below.next BC.out hb)
    clear hb V5
    go_wp2_with (go_at_call 32; refine (marksec_any _ ps wb.heap.size _ BC.out.size hl1 OX.out).mono ?_; rintro e wz ⟨rfl, o, hb, hon⟩; refine Hid.out ?_)
    refine Lib.hid ?_
    have O2 := Lib.hid (hon.own BK.out O2.out)
    have BC := Lib.hid (BC.out.trans hb)
    clear o hb hon OX BK
    go_wp2_with (go_at_call 21; refine (eqsecs_same _ _ L _ hm O2.out.are (O1.out.below BC.out).are).mono ?_; rintro e wz ⟨rfl, hb⟩; refine Hid.out ?_)
    refine Lib.hid ?_
    have O2 := Lib.hid (O2.out.below hb)
    have BC := Lib.hid (Below.next BC.out hb)
    clear hb
    go_wp2_with (go_at_call 32; refine (marksec_any _ L wb.heap.size _ BC.out.size hm (O2.out.mono SZ.out)).mono ?_; rintro e wz ⟨rfl, o, hb, hon⟩; refine Hid.out ?_)
    refine Lib.hid ?_
    have O4 := Lib.hid (o)
    have BC := Lib.hid (BC.out.trans hb)
    clear o hb hon O2
    go_wp2_with (go_at_call 33; refine (heldsec_any _ L.length _ _ hm O4.out).mono ?_; rintro e wz ⟨rfl, hb⟩; refine Hid.out ?_)
    refine Lib.hid ?_
    have O4 := Lib.hid (O4.out.below hb)
    have BC := Lib.hid (Below.next BC.out hb)
    clear hb
    go_wp2_with (go_at_call 19; refine (tosecs_any _ _ _ ps _ (G1.out.below BC.out).arg hl1).mono ?_; rintro e wz ⟨v7, rfl, o, hb⟩; refine Hid.out ?_)
    refine Lib.hid ?_
    have O4 := Lib.hid (O4.out.below hb)
    have BC := Lib.hid (Below.next BC.out hb)
    have V7 := Lib.hid (o.are)
    clear o hb
    go_wp2_with (go_at_call 31; refine (HI.out _ _ V7.out).mono ?_; rintro e wz ⟨v8, rfl, o, hb⟩; refine Hid.out ?_)
    refine Lib.hid ?_
    have O2 := Lib.hid (o)
    have O4 := Lib.hid (O4.out.below hb)
    have BC := Lib.hid (Below.next BC.out hb)
    clear o hb V7
    go_wp2_with (go_at_call 21; refine (eqsecs_same _ _ L _ hm O2.out.are (O1.out.below BC.out).are).mono ?_; rintro e wz ⟨rfl, hb⟩; refine Hid.out ?_)
    refine Lib.hid ?_
    have O4 := Lib.hid (O4.out.below hb)
    have BC := Lib.hid (Below.next BC.out hb)
    clear hb O2
    go_wp2_with (go_at_call 33; refine (heldsec_any _ L.length _ _ hm O4.out).mono ?_; rintro e wz ⟨rfl, hb⟩; refine Hid.out ?_)
    refine Lib.hid ?_
    have BC := Lib.hid (Below.next BC.out hb)
    clear hb
    go_wp2_with (fail)
    go_ret
    exact ⟨rfl, AC.out.trans (BC.out.mono AC.out.size)⟩
end Go.Proofs.Ytclbpjjnhfllkaa
