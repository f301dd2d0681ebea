/- Is a mark valid? The model's. -/
import Derived.Test.YthheacebafleeaaDoorMrkP
import Derived.Test.YthheacebafleeaaDoorMrkS
import Derived.Test.YthheacebafleeaaDoorMrkE
import Derived.Test.YthheacebafleeaaDoorClx
import Derived.Deep.LoopGhost
namespace Go.Proofs.YthheacebafleeaaDoor
open Go.ChangeShapes Go.WideShapes Go.ChangeAt Go.RowKit Pm

/-- Four cells of a mark. -/
def MarkCells (w : World) (B : Nat) (k : Int) (c s t : ByteArray) : Prop := w.cell? ⟨B, 0, none⟩ = some (.int .i64 k) ∧ w.cell? ⟨B, 1, none⟩ = some (.string c) ∧ w.cell? ⟨B, 2, none⟩ = some (.string s) ∧ w.cell? ⟨B, 3, none⟩ = some (.string t)
theorem MarkCells.below {w w' : World} {B : Nat} {k : Int} {c s t : ByteArray} (h : MarkCells w B k c s t) (hb : Below w.heap.size w w') : MarkCells w' B k c s t :=
  ⟨cell_below h.1 hb, cell_below h.2.1 hb, cell_below h.2.2.1 hb, cell_below h.2.2.2 hb⟩
theorem MarkCells.new (w : World) (T : TypeId) (n : Nat) (hn : w.heap.size = n) (k : Int) (c s t : ByteArray) : MarkCells (w.alloc (.cells #[.int .i64 k, .string c, .string s, .string t] T)) n k c s t := by
  subst hn
  exact ⟨by simp, by simp, by simp, by simp⟩
theorem neq_of {a b : ByteArray} {z : Bool} (h : (a.toList == b.toList) = z) : (a.toList != b.toList) = !z := by rw [bne, h]
theorem neq_nil {a : ByteArray} {z : Bool} (h : (a.toList == []) = z) : (a.toList != []) = !z := by rw [bne, h]
theorem mretB {a b : Bool} (h : a = b) : Ending.returned (.bool a) = .returned (.bool b) := by rw [h]
set_option maxRecDepth 100000 in
set_option maxHeartbeats 2000000 in
/-- The kind is none. -/
theorem smkok_zero (B : Nat) (c s t : ByteArray) (w : World) (h : MarkCells w B 0 c s t) :
    Calls Tryd.prog 43 #[.pointer (some ⟨B, 0, none⟩)] w fun e w' => e = .returned (.bool (mkZ 0 c s t)) ∧ Below w.heap.size w w' := by
  have hEq := eq_zero 0 c s t
  generalize mkZ 0 c s t = z at *
  obtain ⟨c0, c1, c2, c3⟩ := h
  go_enter Tryd.func43, Tryd.ntmps43
  go_wp2
  go_ret
  exact ⟨rfl, by go_grown⟩
set_option maxRecDepth 100000 in
set_option maxHeartbeats 4000000 in
/-- There is no such kind, or its color is another, or its topmark is. -/
theorem smkok_no (B : Nat) (k : Int) (c s t : ByteArray) (w : World) (h : MarkCells w B k c s t) (hk : k ≠ 0)
    (hn : inB 1 9 [k] = false ∨ inB 1 9 [k] = true ∧ ((c.toList == (mkF k 1).toList) = false ∨ (c.toList == (mkF k 1).toList) = true ∧ (t.toList == []) = false ∧ (t.toList == (mkF k 3).toList) = false)) :
    Calls Tryd.prog 43 #[.pointer (some ⟨B, 0, none⟩)] w fun e w' => e = .returned (.bool false) ∧ Below w.heap.size w w' := by
  obtain ⟨c0, c1, c2, c3⟩ := h
  have b0 : Below w.heap.size w w := Below.refl _ _
  have hk0 : (k == 0) = false := beq_eq_false_iff_ne.2 hk
  have HK := fun w => skind_any k w
  rcases hn with h1 | ⟨h1, hn⟩
  · rw [h1] at HK
    have HK := Lib.hid HK
    clear h1 hk
    go_enter Tryd.func43, Tryd.ntmps43
    go_wp2
    obtain ⟨S, hcl, hS0, k0, k1, k2, k3, kB⟩ := clx4 c0 c1 c2 c3 b0
    have hne : Nonempty (Clx S) := ⟨⟨_, hS0⟩⟩
    clear c0 c1 c2 c3 b0
    refine wp_region_clx S (by kernel_rfl) (by kernel_rfl) hS0 ?_
    repeat (go_big_quiet_step ((go_at_call 37; exact Clx.call hcl _ (below_eq (HK.out _)))))
    refine wpQuiet_nil ?_
    intro _ hw'
    obtain ⟨p, rfl⟩ := hw'
    go_wp2_with (fail)
    go_ret
    exact ⟨rfl, kB p⟩
  · rw [h1] at HK
    have HK := Lib.hid HK
    have HC := Lib.hid (fun w => smkcolors_any k w h1)
    have HT := Lib.hid (fun w => smktop_any k w h1)
    clear h1 hk
    generalize mkF k 1 = s1 at *
    generalize mkF k 3 = s3 at *
    rcases hn with e1 | ⟨e1, e2, e3⟩
    · have f1 := neq_of e1
      go_enter Tryd.func43, Tryd.ntmps43
      go_wp2
      obtain ⟨S, hcl, hS0, k0, k1, k2, k3, kB⟩ := clx4 c0 c1 c2 c3 b0
      have hne : Nonempty (Clx S) := ⟨⟨_, hS0⟩⟩
      clear c0 c1 c2 c3 b0
      refine wp_region_clx S (by kernel_rfl) (by kernel_rfl) hS0 ?_
      repeat (go_big_quiet_step (first
        | (go_at_call 37; exact Clx.call hcl _ (below_eq (HK.out _)))
        | (go_at_call 38; exact Clx.call hcl _ (HC.out _))))
      refine wpQuiet_nil ?_
      intro _ hw'
      obtain ⟨p, rfl⟩ := hw'
      go_wp2_with (fail)
      go_ret
      exact ⟨rfl, kB p⟩
    · have f1 := neq_of e1
      have f2 := neq_nil e2
      have f3 := neq_of e3
      go_enter Tryd.func43, Tryd.ntmps43
      go_wp2
      obtain ⟨S, hcl, hS0, k0, k1, k2, k3, kB⟩ := clx4 c0 c1 c2 c3 b0
      have hne : Nonempty (Clx S) := ⟨⟨_, hS0⟩⟩
      clear c0 c1 c2 c3 b0
      refine wp_region_clx S (by kernel_rfl) (by kernel_rfl) hS0 ?_
      repeat (go_big_quiet_step (first
        | (go_at_call 37; exact Clx.call hcl _ (below_eq (HK.out _)))
        | (go_at_call 38; exact Clx.call hcl _ (HC.out _))
        | (go_at_call 40; exact Clx.call hcl _ (HT.out _))))
      refine wpQuiet_nil ?_
      intro _ hw'
      obtain ⟨p, rfl⟩ := hw'
      go_wp2_with (fail)
      go_ret
      exact ⟨rfl, kB p⟩
set_option maxRecDepth 100000 in
set_option maxHeartbeats 4000000 in
/-- All but the shape is right. -/
theorem smkok_shape (B : Nat) (k : Int) (c s t : ByteArray) (w : World) (h : MarkCells w B k c s t) (hk : k ≠ 0)
    (h1 : inB 1 9 [k] = true) (e1 : (c.toList == (mkF k 1).toList) = true) (hn : (t.toList == []) = true ∨ (t.toList == []) = false ∧ (t.toList == (mkF k 3).toList) = true) :
    Calls Tryd.prog 43 #[.pointer (some ⟨B, 0, none⟩)] w fun e w' => e = .returned (.bool (hasB (mkShapes k) s)) ∧ Below w.heap.size w w' := by
  obtain ⟨c0, c1, c2, c3⟩ := h
  have b0 : Below w.heap.size w w := Below.refl _ _
  have hk0 : (k == 0) = false := beq_eq_false_iff_ne.2 hk
  have HK := fun w => skind_any k w
  rw [h1] at HK
  have HK := Lib.hid HK
  have HC := Lib.hid (fun w => smkcolors_any k w h1)
  have HT := Lib.hid (fun w => smktop_any k w h1)
  have HN := Lib.hid (fun w => smkshapes_any k w h1)
  clear h1 hk
  generalize mkF k 1 = s1 at *
  generalize mkF k 3 = s3 at *
  obtain ⟨zs, hzs⟩ : ∃ zs, zs = mkShapes k := ⟨_, rfl⟩
  have hz5 := shapes_le k
  rw [← hzs] at HN hz5 ⊢
  clear hzs
  obtain ⟨m, hm⟩ : ∃ m, m = zs.length := ⟨_, rfl⟩
  have hm5 : m ≤ 5 := by rw [hm]; exact hz5
  have HM := Lib.hid hm
  rw [← hm] at HN
  clear hm hz5
  have f1 := neq_of e1
  rcases hn with e2 | ⟨e2, e3⟩
  case' inl => have f2 := neq_nil e2
  case' inr =>
    have f2 := neq_nil e2
    have f3 := neq_of e3
  all_goals
    go_enter Tryd.func43, Tryd.ntmps43
    go_wp2
    obtain ⟨S, hcl, hS0, k0, k1, k2, k3, kB⟩ := clx4 c0 c1 c2 c3 b0
    have hne : Nonempty (Clx S) := ⟨⟨_, hS0⟩⟩
    clear c0 c1 c2 c3 b0
    refine wp_region_clx S (by kernel_rfl) (by kernel_rfl) hS0 ?_
    repeat (go_big_quiet_step (first
      | (go_at_call 37; exact Clx.call hcl _ (below_eq (HK.out _)))
      | (go_at_call 38; exact Clx.call hcl _ (HC.out _))
      | (go_at_call 40; exact Clx.call hcl _ (HT.out _))))
    refine wpQuiet_nil ?_
    intro _ hw'
    obtain ⟨p, rfl⟩ := hw'
    have HB := Lib.hid (kB p)
    have HX := Lib.hid (show MarkCells p.v B k c s t from ⟨k0 p, k1 p, k2 p, k3 p⟩)
    have c0 := k0 p
    clear k0 k1 k2 k3 kB hS0 hcl
    generalize p.v = w1 at *
    clear hne
    go_wp2_with (go_at_call 39; refine (HN.out _).mono ?_; rintro e w2 ⟨rfl, hst, hb⟩; refine Hid.out ?_)
    refine Lib.hid ?_
    have HST := Lib.hid hst
    have HX2 := Lib.hid (HX.out.below hb)
    have HB2 := Lib.hid (Below.next HB.out hb)
    clear hst hb c0
    generalize w1.heap.size = g at *
    go_wp2_with (fail)
    go_loopw [4] (fun i wr => ∃ j : Nat, j ≤ m ∧ i = .int .i64 j ∧ (∀ r, r < j → ((zs.getD r ByteArray.empty).toList == s.toList) = false) ∧ Below w2.heap.size w2 wr) (fun i _ => m - (intOf i).toNat)
    case atStart => exact ⟨0, Nat.zero_le _, rfl, fun r hr => absurd hr (Nat.not_lt_zero r), Below.refl _ _⟩
    case round =>
      obtain ⟨j, hj, rfl, hno, hbel⟩ := hrel
      have HNO := Lib.hid hno
      have HBR := Lib.hid hbel
      by_cases hlt : j < m
      · have hjm : (j : Int) < (m : Int) := by omega
        have hq := HST.out.below hbel j (by rw [← HM.out]; exact hlt)
        rw [Nat.zero_add] at hq
        obtain ⟨d0, d1, d2, d3⟩ := HX2.out.below hbel
        have HAT := Lib.hid (fun h => has_at (s := s) (zs := zs) (j := j) (by rw [← HM.out]; exact hlt) h)
        obtain ⟨q, hqe⟩ : ∃ q, q = zs.getD j ByteArray.empty := ⟨_, rfl⟩
        have HQ := Lib.hid hqe
        rw [← hqe] at hq HAT
        clear hqe hno hbel hj
        cases hqs : (q.toList == s.toList)
        · go_wp2_with (fail)
          go_quiet (fail)
          go_wp2_with (fail)
          go_roundw
          case rel =>
            refine ⟨j + 1, by omega, by go_num, ?_, Below.next HBR.out (fall_drew _ _)⟩
            intro r hr
            rcases Nat.lt_or_ge r j with h | h
            · exact HNO.out r h
            · obtain rfl : r = j := by omega
              rw [← HQ.out]; exact hqs
          case measure => simp [intOf]; omega
        · have HRR := Lib.hid (HAT.out hqs)
          go_wp2_with (fail)
          go_quiet (fail)
          go_wp2_with (fail)
          go_ret
          exact ⟨mretB HRR.out.symm, Below.next (HB2.out.trans (HBR.out.mono HB2.out.size)) (fall_drew _ _)⟩
      · have hjm : ¬ (j : Int) < (m : Int) := by omega
        have HRR := Lib.hid (has_none (s := s) (zs := zs) (fun r h => HNO.out r (by rw [← HM.out] at h; omega)))
        clear hno hbel hj
        go_wp2_with (fail)
        go_ret
        exact ⟨mretB HRR.out.symm, HB2.out.trans (HBR.out.mono HB2.out.size)⟩
theorem smkok_any (B : Nat) (k : Int) (c s t : ByteArray) (w : World) (h : MarkCells w B k c s t) :
    Calls Tryd.prog 43 #[.pointer (some ⟨B, 0, none⟩)] w fun e w' => e = .returned (.bool (mkOk k c s t)) ∧ Below w.heap.size w w' := by
  by_cases hk : k = 0
  · subst hk
    rw [ok_zero]
    exact smkok_zero B c s t w h
  rw [ok_else hk, look_is]
  cases h1 : inB 1 9 [k]
  · have hl : ((c.toList == (mkF k 1).toList) && (hasB (mkShapes k) s && ((t.toList == []) || (t.toList == (mkF k 3).toList)))) = false := by rw [← look_is]; exact look_out h1 c s t
    rw [hl]
    exact smkok_no B k c s t w h hk (.inl h1)
  cases e1 : (c.toList == (mkF k 1).toList)
  · exact smkok_no B k c s t w h hk (.inr ⟨h1, .inl e1⟩)
  cases e2 : (t.toList == ([] : List UInt8))
  · cases e3 : (t.toList == (mkF k 3).toList)
    · have := smkok_no B k c s t w h hk (.inr ⟨h1, .inr ⟨e1, e2, e3⟩⟩)
      simpa using this
    · have := smkok_shape B k c s t w h hk h1 e1 (.inr ⟨e2, e3⟩)
      simpa using this
  · have := smkok_shape B k c s t w h hk h1 e1 (.inl e2)
    simpa using this
theorem svalidmark_any (k : Int) (c s t : ByteArray) (w : World) :
    Calls Tryd.prog 19 #[.agg #[.int .i64 k, .string c, .string s, .string t]] w fun e w' => e = .returned (.bool (mkOk k c s t)) ∧ Below w.heap.size w w' := by
  have H := Lib.hid (fun w' h => smkok_any w.heap.size k c s t w' h)
  generalize mkOk k c s t = r at *
  go_enter Tryd.func19, Tryd.ntmps19
  go_wp2_with (go_at_call 43; refine (H.out _ (MarkCells.new w _ _ rfl k c s t)).mono ?_; rintro e w1 ⟨rfl, hb⟩; have AC := Lib.hid (Below.next (a := w) (by go_grown) hb); clear hb)
  go_ret
  exact ⟨rfl, AC.out⟩
end Go.Proofs.YthheacebafleeaaDoor
