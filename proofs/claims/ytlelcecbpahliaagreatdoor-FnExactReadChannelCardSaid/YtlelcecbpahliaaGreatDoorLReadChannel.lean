/- The law of ReadChannel. -/
import Derived.Test.YtlelcecbpahliaaGreatDoorRdcS
namespace Go.Proofs.YtlelcecbpahliaaGreatDoor
open Go.ChangeShapes Go.WideShapes Go.ChangeAt Go.RowKit Pm

theorem rdcT_len (s : ByteArray) (hs : s.size ≤ 1048576) : (rdcT s).2.1.length ≤ 1048576 := by
  unfold rdcT
  split
  · split
    · rename_i a b r e
      have := cutS_le 32 s
      rw [e] at this
      simp at this ⊢
      omega
    · simp
  · simp
set_option maxRecDepth 100000 in
set_option maxHeartbeats 8000000 in
theorem readchannel_law (s : ByteArray) (w0 : s.size ≤ maxLen) (w : World) (hL : laidMetH Tryz.prog Rows.fnExactReadChannelRow.laid w) (hsh : w.ShapedOpen Tryz.prog) :
    Calls Tryz.prog 4 #[.string s] w fun e w' => e = .returned (.bool true) ∧ Below w.heap.size w w' := by
  rw [MakeChecks.laidMetH_plain _ _ _ (by kernel_rfl)] at hL
  have HP := Lib.hid (pow_of hL)
  have HE := Lib.hid (show ErrsAt w from ⟨range_of hL.tail.tail.tail.tail, syn_of hL.tail.tail.tail.tail.tail⟩)
  have HN := Lib.hid (len_of hsh)
  clear hL hsh
  unfold maxLen at w0
  by_cases hl : s.size ≤ 1048576
  · have RS := Lib.hid (fun w' => sreadchn_any s w' hl)
    have RI := Lib.hid (fun w' h1 h2 h3 => show Calls Tryz.prog 12 #[.string s] w' (RdcR (rdcT s).1 (rdcT s).2.1 (rdcT s).2.2 (rdcB s) w') from readchn_any s w' hl h1 h2 h3)
    have hL2 := rdcT_len s hl
    have hn : ¬ (1048576 : Int) < (s.size : Int) := by omega
    generalize (rdcT s).1 = S at *
    generalize (rdcT s).2.1 = L at *
    generalize (rdcT s).2.2 = Z at *
    generalize rdcB s = B at *
    have EL := Lib.hid (fun w' v1 v2 h1 h2 => eqchn_same S Z L v1 v2 w' hL2 h1 h2)
    have hposL : ¬ (1 + 2 * (L.length : Int)) < 0 := by omega
    clear hl w0
    cases B
    all_goals
      go_enter Tryz.func4, Tryz.ntmps4
      go_wp2_with (go_at_call 11; (refine (RS.out _).mono ?_); rintro e w3 ⟨va, rfl, ho, hb⟩; refine Hid.out ?_)
      refine Lib.hid ?_
      have O1 := Lib.hid (ho.pts hL2)
      have AC := Lib.hid hb
      obtain ⟨aa, ca, rfl⟩ := ho.form
      clear ho hb
      obtain ⟨wb, hwb⟩ : ∃ wb, wb = w3.alloc (.cells #[.string S, .slice aa L.length ca, .int .i64 Z] 30) := ⟨_, rfl⟩
      have ab : Below w3.heap.size w3 wb := hwb ▸ (Below.refl _ _).alloc (Nat.le_refl _) _
      have N4 := Lib.hid (show ChnAt wb w3.heap.size S (.slice aa L.length ca) Z from hwb ▸ ChnAt.new S _ Z _ rfl)
      have O1 := Lib.hid (O1.out.below ab)
      have AC := Lib.hid (Below.next AC.out ab)
      have hP4b : w3.heap.size < wb.heap.size := World.block_lt_of_cell? _ _ N4.out.1
      clear ab
      go_wp2_with (go_at_call 12; rw [← hwb]; (refine (RI.out _ (HN.out.below AC.out) (HP.out.below AC.out) (HE.out.below AC.out)).mono ?_); rintro e w5 ⟨vg, rfl, ho, hb⟩; refine Hid.out ?_)
      clear hwb
      refine Lib.hid ?_
      have O2 := Lib.hid ho
      obtain ⟨ga, gc, rfl⟩ := ho.form
      have BKG := Lib.hid (OwnPt.block ho)
      have BC := Lib.hid hb
      have s65 : wb.heap.size ≤ w5.heap.size := hb.size
      clear ho hb
      obtain ⟨W7, hW7⟩ : ∃ W7, W7 = w5.alloc (.cells #[.string S, .slice ga L.length gc, .int .i64 Z] 30) := ⟨_, rfl⟩
      have ab : Below w5.heap.size w5 W7 := hW7 ▸ (Below.refl _ _).alloc (Nat.le_refl _) _
      have N7 := Lib.hid (show ChnAt W7 w5.heap.size S (.slice ga L.length gc) Z from by rw [hW7]; exact ChnAt.new S _ Z _ rfl)
      have O2 := Lib.hid (O2.out.below ab)
      have BC := Lib.hid (Below.next BC.out ab)
      have BKG := Lib.hid (show ∀ g, (Value.slice ga L.length gc).ownBlock = some g → g < w5.heap.size from fun g hg => (BKG.out g hg).2)
      have h7 : w5.heap.size < W7.heap.size := World.block_lt_of_cell? _ _ N7.out.1
      clear ab
      obtain ⟨x0, x1, x2⟩ : ChnAt (w5.alloc (.cells #[.string S, .slice ga L.length gc, .int .i64 Z] 30)) w5.heap.size S (.slice ga L.length gc) Z := ChnAt.new S _ Z _ rfl
      obtain ⟨y0, y1, y2⟩ : ChnAt (w5.alloc (.cells #[.string S, .slice ga L.length gc, .int .i64 Z] 30)) w3.heap.size S (.slice aa L.length ca) Z := hW7 ▸ N4.out.below BC.out
      go_wp2_with (go_at_call 13; rw [← hW7]; (with_reducible refine (EL.out _ _ _ (O2.out.pts hL2) (O1.out.below BC.out)).mono ?_); rintro e w6 ⟨rfl, hb⟩; refine Hid.out ?_)
      clear x0 x1 x2 y0 y1 y2 hW7
      refine Lib.hid ?_
      have N7 := Lib.hid (N7.out.below hb)
      have O2 := Lib.hid (O2.out.below hb)
      have BC := Lib.hid (Below.next BC.out hb)
      have hszc : wb.heap.size ≤ w6.heap.size := by have := hb.size; omega
      clear hb
      obtain ⟨x0, x1, x2⟩ := N7.out
      go_wp2_with (go_at_call 14; (with_reducible refine (markchn_any S Z _ L wb.heap.size _ hszc hL2 O2.out).mono ?_); rintro e w10 ⟨rfl, ho, hb, hon⟩; refine Hid.out ?_)
      clear x0 x1 x2
      refine Lib.hid ?_
      have N7 := Lib.hid (show ChnAt w10 w5.heap.size S (.slice ga L.length gc) Z from ⟨hon.cell (fun e => by have := BKG.out _ e; omega) N7.out.1, hon.cell (fun e => by have := BKG.out _ e; omega) N7.out.2.1, hon.cell (fun e => by have := BKG.out _ e; omega) N7.out.2.2⟩)
      have O4 := Lib.hid ho
      have BC := Lib.hid (BC.out.trans hb)
      clear ho hb hon O2
      obtain ⟨x0, x1, x2⟩ := N7.out
      go_wp2_with (go_at_call 15; (with_reducible refine (heldchn_any S Z _ L.length wb.heap.size _ hL2 O4.out).mono ?_); rintro e w11 ⟨rfl, hb⟩; refine Hid.out ?_)
      clear x0 x1 x2
      refine Lib.hid ?_
      have N7 := Lib.hid (N7.out.below hb)
      have O4 := Lib.hid (O4.out.below hb)
      have BC := Lib.hid (Below.next BC.out hb)
      have AC2 := Lib.hid (Below.next AC.out BC.out)
      clear hb
      go_wp2_with (go_at_call 12; (with_reducible refine (RI.out _ (HN.out.below AC2.out) (HP.out.below AC2.out) (HE.out.below AC2.out)).mono ?_); rintro e w13 ⟨vh, rfl, ho, hb⟩; refine Hid.out ?_)
      refine Lib.hid ?_
      have J6 := Lib.hid (ho.pts hL2)
      obtain ⟨ha, hc, rfl⟩ := ho.form
      have N7 := Lib.hid (N7.out.below hb)
      have O4 := Lib.hid (O4.out.below hb)
      have BC := Lib.hid (Below.next BC.out hb)
      clear ho hb AC2
      have ab := (Below.refl w13.heap.size w13).alloc (Nat.le_refl _) (.cells #[.string S, .slice ha L.length hc, .int .i64 Z] 30)
      have N7 := Lib.hid (N7.out.below ab)
      have O4 := Lib.hid (O4.out.below ab)
      have J6 := Lib.hid (J6.out.below ab)
      have BC := Lib.hid (Below.next BC.out ab)
      clear ab
      obtain ⟨x0, x1, x2⟩ : ChnAt (w13.alloc (.cells #[.string S, .slice ha L.length hc, .int .i64 Z] 30)) w13.heap.size S (.slice ha L.length hc) Z := ChnAt.new S _ Z _ rfl
      obtain ⟨y0, y1, y2⟩ := N4.out.below BC.out
      go_wp2_with (go_at_call 13; (with_reducible refine (EL.out _ _ _ J6.out (O1.out.below BC.out)).mono ?_); rintro e w14 ⟨rfl, hb⟩; refine Hid.out ?_)
      clear x0 x1 x2 y0 y1 y2
      refine Lib.hid ?_
      have N7 := Lib.hid (N7.out.below hb)
      have O4 := Lib.hid (O4.out.below hb)
      have BC := Lib.hid (Below.next BC.out hb)
      clear hb J6
      obtain ⟨x0, x1, x2⟩ := N7.out
      go_wp2_with (go_at_call 15; (with_reducible refine (heldchn_any S Z _ L.length wb.heap.size _ hL2 O4.out).mono ?_); rintro e w15 ⟨rfl, hb⟩; refine Hid.out ?_)
      refine Lib.hid ?_
      have BC := Lib.hid (Below.next BC.out hb)
      clear hb x0 x1 x2
      go_wp2_with (fail)
      go_ret
      exact ⟨rfl, Below.next AC.out BC.out⟩
  · have hl2 : (1048576 : Int) < (s.size : Int) := by omega
    clear hl
    go_enter Tryz.func4, Tryz.ntmps4
    go_wp2
    go_ret
    exact ⟨rfl, Below.refl _ _⟩
end Go.Proofs.YtlelcecbpahliaaGreatDoor
