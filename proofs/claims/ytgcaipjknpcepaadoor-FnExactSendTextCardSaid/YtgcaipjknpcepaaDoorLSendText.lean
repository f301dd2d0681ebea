/- The law of SendText. -/
import Derived.Test.YtgcaipjknpcepaaDoorSndI
import Derived.Test.YtgcaipjknpcepaaDoorPhsK
import Derived.Stop.LaidErr
namespace Go.Proofs.YtgcaipjknpcepaaDoor
open Go.ChangeShapes Go.WideShapes Go.ChangeAt Go.RowKit Pm

theorem sndV_len (s c : ByteArray) (u : Int) : (sndV s c u).length ≤ 1048576 := by
  unfold sndV
  split
  · rename_i h
    split
    · rw [Bool.and_eq_true] at h
      have hS := sent_out h.1
      have h1 := sndP_len c u s.data.toList 0 (fun x hx => by
        obtain ⟨j, hj, rfl⟩ := List.getElem_of_mem hx
        rw [byte_at s j (by simpa using hj)]
        exact hS.byte j (by simpa using hj))
      rw [sz_toList] at h1
      have := hS.most
      omega
    · simp
  · simp
set_option maxRecDepth 100000 in
set_option maxHeartbeats 1000000 in
theorem sendtext_law (s c : ByteArray) (u : Int) (w0 : s.size ≤ maxLen) (w1 : c.size ≤ maxLen) (w : World) (hL : laidMetH Tryd.prog Rows.fnExactSendTextRow.laid w) (hsh : w.ShapedOpen Tryd.prog) :
    Calls Tryd.prog 7 #[.string s, .string c, .int .i64 u] w fun e w' => e = .returned (.bool true) ∧ Below w.heap.size w w' := by
  rw [MakeChecks.laidMetH_plain _ _ _ (by kernel_rfl)] at hL
  have HT := Lib.hid (signs_of hL.tail)
  have HN := Lib.hid (len_of hsh)
  clear hL hsh
  unfold maxLen at w0 w1
  by_cases hl : s.size ≤ 1048576
  · by_cases hl1 : c.size ≤ 1048576
    · have hli : ¬ (1048576 : Int) < (s.size : Int) := by omega
      have hli1 : ¬ (1048576 : Int) < (c.size : Int) := by omega
      have hm := sndV_len s c u
      have HS := Lib.hid (fun w => ssendtext_any s c u w hl)
      have HI := Lib.hid (fun w h h2 => send_any s c u w h h2)
      obtain ⟨L, hLL⟩ : ∃ L, L = sndV s c u := ⟨_, rfl⟩
      obtain ⟨b, hb⟩ : ∃ b, b = sndC s c u := ⟨_, rfl⟩
      rw [← hLL, ← hb] at HS HI
      rw [← hLL] at hm
      clear hLL hb w0 w1
      go_enter Tryd.func7, Tryd.ntmps7
      go_wp2_with (go_at_call 21; refine (HS.out _).mono ?_; rintro e w1 ⟨v1, rfl, o1, b1⟩; refine Hid.out ?_)
      refine Lib.hid ?_
      have O1 := Lib.hid o1
      have B1 := Lib.hid b1
      have HT := Lib.hid (HT.out.below b1)
      have HN := Lib.hid (LenAt.below HN.out b1)
      clear o1 b1
      go_wp2_with (go_at_call 22; refine (HI.out _ HN.out HT.out).mono ?_; rintro e w2 ⟨v2, rfl, o2, b2⟩; refine Hid.out ?_)
      refine Lib.hid ?_
      have O2 := Lib.hid o2
      have BC := Lib.hid b2
      clear o2 b2
      go_wp2_with (go_at_call 23; refine (eqphs_same _ _ L _ hm O2.out.are (O1.out.below BC.out).are).mono ?_; rintro e wq ⟨rfl, hb⟩; refine Hid.out ?_)
      refine Lib.hid ?_
      have O2 := Lib.hid (O2.out.below hb)
      have BC := Lib.hid (Below.next BC.out hb)
      clear hb
      go_wp2_with (go_at_call 24; refine (markph_any _ L w1.heap.size _ BC.out.size hm O2.out).mono ?_; rintro e wq ⟨rfl, o4, hb⟩; refine Hid.out ?_)
      refine Lib.hid ?_
      have O4 := Lib.hid o4
      have BC := Lib.hid (BC.out.trans hb)
      clear o4 hb
      go_wp2_with (go_at_call 25; refine (heldph_any _ L.length _ _ hm O4.out).mono ?_; rintro e wq ⟨rfl, hb⟩; refine Hid.out ?_)
      refine Lib.hid ?_
      have O4 := Lib.hid (O4.out.below hb)
      have BC := Lib.hid (Below.next BC.out hb)
      clear hb
      go_wp2_with (go_at_call 22; refine (HI.out _ (LenAt.below HN.out BC.out) (HT.out.below BC.out)).mono ?_; rintro e wq ⟨v3, rfl, o6, hb⟩; refine Hid.out ?_)
      refine Lib.hid ?_
      have O6 := Lib.hid o6
      have O4 := Lib.hid (O4.out.below hb)
      have BC := Lib.hid (Below.next BC.out hb)
      clear o6 hb
      go_wp2_with (go_at_call 23; refine (eqphs_same _ _ L _ hm O6.out.are (O1.out.below BC.out).are).mono ?_; rintro e wq ⟨rfl, hb⟩; refine Hid.out ?_)
      refine Lib.hid ?_
      have O4 := Lib.hid (O4.out.below hb)
      have BC := Lib.hid (Below.next BC.out hb)
      clear hb
      go_wp2_with (go_at_call 25; refine (heldph_any _ L.length _ _ hm O4.out).mono ?_; rintro e wq ⟨rfl, hb⟩; refine Hid.out ?_)
      refine Lib.hid ?_
      have BC := Lib.hid (Below.next BC.out hb)
      clear hb
      go_wp2_with (fail)
      go_ret
      exact ⟨rfl, B1.out.trans (BC.out.mono B1.out.size)⟩
    · have hli : ¬ (1048576 : Int) < (s.size : Int) := by omega
      have hl2 : (1048576 : Int) < (c.size : Int) := by omega
      clear hl hl1
      go_enter Tryd.func7, Tryd.ntmps7
      go_wp2
      go_ret
      exact ⟨rfl, Below.refl _ _⟩
  · have hl2 : (1048576 : Int) < (s.size : Int) := by omega
    clear hl
    go_enter Tryd.func7, Tryd.ntmps7
    go_wp2
    go_ret
    exact ⟨rfl, Below.refl _ _⟩
end Go.Proofs.YtgcaipjknpcepaaDoor
