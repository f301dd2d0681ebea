/- Does a mark look like some words? The model's. -/
import Derived.Test.YthheacebafleeaaDoorMrkK
namespace Go.Proofs.YthheacebafleeaaDoor
open Go.ChangeShapes Go.WideShapes Go.ChangeAt Go.RowKit Pm

set_option maxRecDepth 100000 in
set_option maxHeartbeats 4000000 in
theorem slike_no (B : Nat) (k : Int) (c s t : ByteArray) (w : World) (h : MarkCells w B k c s t) (h1 : inB 1 9 [k] = true)
    (e2 : (t.toList == ([] : List UInt8)) = false) (e3 : (t.toList == (mkF k 3).toList) = false) :
    Calls Tryd.prog 46 #[.pointer (some ⟨B, 0, none⟩)] w fun e w' => e = .returned (.bool false) ∧ Below w.heap.size w w' := by
  obtain ⟨c0, c1, c2, c3⟩ := h
  have b0 : Below w.heap.size w w := Below.refl _ _
  have HT := Lib.hid (fun w => smktop_any k w h1)
  clear h1
  generalize mkF k 3 = s3 at *
  have f2 := neq_nil e2
  have f3 := neq_of e3
  go_enter Tryd.func46, Tryd.ntmps46
  go_wp2
  all_goals
    obtain ⟨S, hcl, hS0, k0, k1, k2, k3, kB⟩ := clx4 c0 c1 c2 c3 b0
    have hne : Nonempty (Clx S) := ⟨⟨_, hS0⟩⟩
    clear c0 c1 c2 c3 b0
    refine wp_region_clx S (by kernel_rfl) (by kernel_rfl) hS0 ?_
    repeat (go_big_quiet_step ((go_at_call 40; exact Clx.call hcl _ (HT.out _))))
    refine wpQuiet_nil ?_
    intro _ hw'
    obtain ⟨p, rfl⟩ := hw'
    go_wp2_with (fail)
    go_ret
    exact ⟨rfl, kB p⟩
theorem fit_of {s : ByteArray} {zs : List ByteArray} {b : Bool} (h : (s.toList == ([] : List UInt8)) = b) : fitB s zs = (b || hasB zs s) := by unfold fitB; rw [h]
set_option maxRecDepth 100000 in
set_option maxHeartbeats 4000000 in
theorem slike_shape (B : Nat) (k : Int) (c s t : ByteArray) (w : World) (h : MarkCells w B k c s t) (h1 : inB 1 9 [k] = true)
    (hn : (t.toList == ([] : List UInt8)) = true ∨ (t.toList == ([] : List UInt8)) = false ∧ (t.toList == (mkF k 3).toList) = true) (z : Bool) (hz : (s.toList == ([] : List UInt8)) = z) :
    Calls Tryd.prog 46 #[.pointer (some ⟨B, 0, none⟩)] w fun e w' => e = .returned (.bool (fitB s (mkShapes k))) ∧ Below w.heap.size w w' := by
  obtain ⟨c0, c1, c2, c3⟩ := h
  have b0 : Below w.heap.size w w := Below.refl _ _
  have HT := Lib.hid (fun w => smktop_any k w h1)
  have HN := Lib.hid (fun w => smkshapes_any k w h1)
  clear h1
  generalize mkF k 3 = s3 at *
  obtain ⟨zs, hzs⟩ : ∃ zs, zs = mkShapes k := ⟨_, rfl⟩
  have hz5 := shapes_le k
  rw [← hzs] at HN hz5 ⊢
  have HFT := Lib.hid (fit_of (zs := zs) hz)
  clear hzs
  obtain ⟨m, hm⟩ : ∃ m, m = zs.length := ⟨_, rfl⟩
  have hm5 : m ≤ 5 := by rw [hm]; exact hz5
  have HM := Lib.hid hm
  rw [← hm] at HN
  clear hm hz5
  rcases hn with e2 | ⟨e2, e3⟩
  case' inl => have f2 := neq_nil e2
  case' inr =>
    have f2 := neq_nil e2
    have f3 := neq_of e3
  all_goals
    go_enter Tryd.func46, Tryd.ntmps46
    go_wp2
    obtain ⟨S, hcl, hS0, k0, k1, k2, k3, kB⟩ := clx4 c0 c1 c2 c3 b0
    have hne : Nonempty (Clx S) := ⟨⟨_, hS0⟩⟩
    clear c0 c1 c2 c3 b0
    refine wp_region_clx S (by kernel_rfl) (by kernel_rfl) hS0 ?_
    repeat (go_big_quiet_step ((go_at_call 40; exact Clx.call hcl _ (HT.out _))))
    refine wpQuiet_nil ?_
    intro _ hw'
    obtain ⟨p, rfl⟩ := hw'
    have HB := Lib.hid (kB p)
    have HX := Lib.hid (show MarkCells p.v B k c s t from ⟨k0 p, k1 p, k2 p, k3 p⟩)
    have c0 := k0 p
    clear k0 k1 k2 k3 kB hS0 hcl
    generalize p.v = w1 at *
    clear hne
    go_wp2_with (go_at_call 39; refine (HN.out _).mono ?_; rintro e w2 ⟨rfl, hst, hb⟩; refine Hid.out ?_)
    refine Lib.hid ?_
    have HST := Lib.hid hst
    have HX2 := Lib.hid (HX.out.below hb)
    have HB2 := Lib.hid (Below.next HB.out hb)
    clear hst hb c0
    generalize w1.heap.size = g at *
    go_wp2_with (fail)
    go_loopw [4] (fun i wr => ∃ j : Nat, j ≤ m ∧ i = .int .i64 j ∧ (∀ r, r < j → ((zs.getD r ByteArray.empty).toList == s.toList) = false) ∧ Below w2.heap.size w2 wr) (fun i _ => m - (intOf i).toNat)
    case atStart => exact ⟨0, Nat.zero_le _, rfl, fun r hr => absurd hr (Nat.not_lt_zero r), Below.refl _ _⟩
    case round =>
      obtain ⟨j, hj, rfl, hno, hbel⟩ := hrel
      have HNO := Lib.hid hno
      have HBR := Lib.hid hbel
      by_cases hlt : j < m
      · have hjm : (j : Int) < (m : Int) := by omega
        have hq := HST.out.below hbel j (by rw [← HM.out]; exact hlt)
        rw [Nat.zero_add] at hq
        obtain ⟨d0, d1, d2, d3⟩ := HX2.out.below hbel
        have HAT := Lib.hid (fun h => has_at (s := s) (zs := zs) (j := j) (by rw [← HM.out]; exact hlt) h)
        obtain ⟨q, hqe⟩ : ∃ q, q = zs.getD j ByteArray.empty := ⟨_, rfl⟩
        have HQ := Lib.hid hqe
        rw [← hqe] at hq HAT
        clear hqe hno hbel hj
        cases hqs : (q.toList == s.toList)
        · go_wp2_with (fail)
          go_quiet (fail)
          go_wp2_with (fail)
          go_roundw
          case rel =>
            refine ⟨j + 1, by omega, by go_num, ?_, Below.next HBR.out (fall_drew _ _)⟩
            intro r hr
            rcases Nat.lt_or_ge r j with h | h
            · exact HNO.out r h
            · obtain rfl : r = j := by omega
              rw [← HQ.out]; exact hqs
          case measure => simp [intOf]; omega
        · have HRR := Lib.hid (HAT.out hqs)
          go_wp2_with (fail)
          go_quiet (fail)
          go_wp2_with (fail)
          go_ret
          exact ⟨mretB (by rw [HFT.out, HRR.out, Bool.or_true]), Below.next (HB2.out.trans (HBR.out.mono HB2.out.size)) (fall_drew _ _)⟩
      · have hjm : ¬ (j : Int) < (m : Int) := by omega
        have HRR := Lib.hid (has_none (s := s) (zs := zs) (fun r h => HNO.out r (by rw [← HM.out] at h; omega)))
        obtain ⟨d0, d1, d2, d3⟩ := HX2.out.below hbel
        clear hno hbel hj
        go_wp2_with (fail)
        go_ret
        exact ⟨mretB (by rw [HFT.out, HRR.out, Bool.or_false]), HB2.out.trans (HBR.out.mono HB2.out.size)⟩
theorem slike_any (B : Nat) (k : Int) (c s t : ByteArray) (w : World) (h : MarkCells w B k c s t) (h1 : inB 1 9 [k] = true) :
    Calls Tryd.prog 46 #[.pointer (some ⟨B, 0, none⟩)] w fun e w' => e = .returned (.bool (fitB s (mkShapes k) && fitB t [mkF k 3])) ∧ Below w.heap.size w w' := by
  rw [fit_one]
  cases e2 : (t.toList == ([] : List UInt8))
  · cases e3 : (t.toList == (mkF k 3).toList)
    · have := slike_no B k c s t w h h1 e2 e3
      simpa using this
    · have := slike_shape B k c s t w h h1 (.inr ⟨e2, e3⟩) _ rfl
      simpa using this
  · have := slike_shape B k c s t w h h1 (.inl e2) _ rfl
    simpa using this
end Go.Proofs.YthheacebafleeaaDoor
