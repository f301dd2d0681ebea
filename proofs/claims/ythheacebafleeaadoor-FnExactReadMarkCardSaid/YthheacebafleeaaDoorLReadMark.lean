/- The law of ReadMark. -/
import Derived.Test.YthheacebafleeaaDoorMrkJ
import Derived.Test.YthheacebafleeaaDoorMrkQ
import Derived.Test.YthheacebafleeaaDoorMrkA
namespace Go.Proofs.YthheacebafleeaaDoor
open Go.ChangeShapes Go.WideShapes Go.ChangeAt Go.RowKit Pm

theorem four_of {l : List ByteArray} (h : l.length = 4) : ∃ p0 p1 p2 p3, l = [p0, p1, p2, p3] := by
  match l, h with
  | [a, b, c, d], _ => exact ⟨a, b, c, d, rfl⟩
theorem sread_any (s : ByteArray) (v : Int) (w : World) (hs : s.size ≤ 1048576) (hv : NamedIs (firstW s) v) :
    Calls Tryd.prog 51 #[.string s] w fun e w' => e = .returned (.tuple #[(rdK s v).val, .bool (rdB s v)]) ∧ Below w.heap.size w w' := by
  cases hb : (s.toList == noneB.toList)
  · by_cases h4 : (cutS 32 s).length = 4
    · obtain ⟨p0, p1, p2, p3, hcut⟩ := four_of h4
      have hw : firstW s = p0 := by unfold firstW; rw [hcut]; rfl
      rw [hw] at hv
      have hsays : saysB s v = (inB 1 9 [v] && (mkOk v p1 p2 (dashT p3) && ((mkT v p1 p2 (dashT p3)).toList == s.toList))) := by
        unfold saysB
        rw [hcut]
        rfl
      have e1 : rdB s v = saysB s v := by unfold rdB; rw [hb]; rfl
      have e2 : (rdK s v).val = if saysB s v then .agg #[.int .i64 v, .string p1, .string p2, .string (dashT p3)] else .agg #[.int .i64 0, .string ⟨#[]⟩, .string ⟨#[]⟩, .string ⟨#[]⟩] := by
        unfold rdK
        rw [hb, hcut]
        cases saysB s v <;> rfl
      rw [e1, e2]
      exact sread_four s p0 p1 p2 p3 v w hs hv hb hcut _ hsays.symm
    · have e0 : saysB s v = false := by unfold saysB; rw [decide_eq_false h4]; rfl
      have e1 : rdB s v = false := by unfold rdB; rw [hb, e0]; rfl
      have e2 : rdK s v = mk0 := by unfold rdK; rw [hb, e0]; rfl
      rw [e1, e2]
      exact sread_short s w hs false hb (.inr h4)
  · have e1 : rdB s v = true := by unfold rdB; rw [hb]; rfl
    have e2 : rdK s v = mk0 := by unfold rdK; rw [hb]; rfl
    rw [e1, e2]
    exact sread_short s w hs true hb (.inl rfl)
theorem sreadmark_any (s : ByteArray) (v : Int) (w : World) (hs : s.size ≤ 1048576) (hv : NamedIs (firstW s) v) :
    Calls Tryd.prog 31 #[.string s] w fun e w' => e = .returned (.tuple #[(rdK s v).val, .bool (rdB s v)]) ∧ Below w.heap.size w w' := by
  have H := Lib.hid (fun w' => sread_any s v w' hs hv)
  generalize rdK s v = m at *
  generalize rdB s v = b at *
  obtain ⟨k, c, h, t⟩ := m
  unfold Mk.val at *
  clear hs hv
  go_enter Tryd.func31, Tryd.ntmps31
  go_wp2_with (go_at_call 51; refine (H.out _).mono ?_; rintro e w1 ⟨rfl, hb⟩; have d0 : w1.cell? ⟨w.heap.size, 0, none⟩ = some (.int .i64 0) := cell_below (by simp) hb; have g0 : w1.frozen? ⟨w.heap.size, 0, none⟩ = false := zfrozen_below (by simp) (by simp) hb; have d1 : w1.cell? ⟨w.heap.size, 1, none⟩ = some (.string ⟨#[]⟩) := cell_below (by simp) hb; have g1 : w1.frozen? ⟨w.heap.size, 1, none⟩ = false := zfrozen_below (by simp) (by simp) hb; have d2 : w1.cell? ⟨w.heap.size, 2, none⟩ = some (.string ⟨#[]⟩) := cell_below (by simp) hb; have g2 : w1.frozen? ⟨w.heap.size, 2, none⟩ = false := zfrozen_below (by simp) (by simp) hb; have d3 : w1.cell? ⟨w.heap.size, 3, none⟩ = some (.string ⟨#[]⟩) := cell_below (by simp) hb; have g3 : w1.frozen? ⟨w.heap.size, 3, none⟩ = false := zfrozen_below (by simp) (by simp) hb; have HB := Lib.hid (Below.next (a := w) (by go_grown) hb); clear hb)
  refine bodyPost_ret (v := .tuple #[.agg #[.int .i64 k, .string c, .string h, .string t], .bool b]) (by simp [results, Tryd.results31, go_sem, *]) rfl ⟨rfl, ?_⟩
  repeat (refine Below.setCell ?_ (by exact Nat.le_refl _) _)
  exact HB.out
set_option maxRecDepth 100000 in
set_option maxHeartbeats 1000000 in
theorem readmark_law (s : ByteArray) (w0 : s.size ≤ maxLen) (w : World) (hL : laidMetH Tryd.prog Rows.fnExactReadMarkRow.laid w) (hsh : w.ShapedOpen Tryd.prog) :
    Calls Tryd.prog 10 #[.string s] w fun e w' => e = .returned (.bool true) ∧ Below w.heap.size w w' := by
  rw [MakeChecks.laidMetH_plain _ _ _ (by kernel_rfl)] at hL
  have HM := Lib.hid (marks_in hL (by kernel_rfl))
  have HP := Lib.hid (space_in hL (by kernel_rfl))
  have HN := Lib.hid (len_of hsh)
  clear hL hsh
  unfold maxLen at w0
  by_cases hl : s.size ≤ 1048576
  · obtain ⟨v, hv⟩ := named_ex (firstW s)
    have HS := Lib.hid (fun w => sreadmark_any s v w hl hv)
    have HI := Lib.hid (fun w hM hS hL => readmark_any s v w hM hS hL hl hv)
    generalize rdK s v = m at *
    generalize rdB s v = b at *
    obtain ⟨k, c, h, t⟩ := m
    unfold Mk.val at *
    have HE := Lib.hid (fun w => eqmark_same k c h t w)
    have hn : ¬ (1048576 : Int) < (s.size : Int) := by omega
    clear w0 hv hl
    cases b
    all_goals
      go_enter Tryd.func10, Tryd.ntmps10
      go_wp2_with (go_at_call 31; refine (HS.out _).mono ?_; rintro e w1 ⟨rfl, hb⟩; refine Hid.out ?_)
      refine Lib.hid ?_
      have B1 := Lib.hid hb
      clear hb
      have B1a := Lib.hid (fun o => B1.out.alloc B1.out.size o)
      go_wp2_with (go_at_call 32; refine (HI.out _ (HM.out.below (B1a.out _)) (HP.out.below (B1a.out _)) (HN.out.below (B1a.out _))).mono ?_; rintro e w2 ⟨rfl, hb⟩; refine Hid.out ?_)
      refine Lib.hid ?_
      have c0 : w2.cell? ⟨w1.heap.size, 0, none⟩ = some (.int .i64 k) := cell_below (by simp) hb
      have c1 : w2.cell? ⟨w1.heap.size, 1, none⟩ = some (.string c) := cell_below (by simp) hb
      have c2 : w2.cell? ⟨w1.heap.size, 2, none⟩ = some (.string h) := cell_below (by simp) hb
      have c3 : w2.cell? ⟨w1.heap.size, 3, none⟩ = some (.string t) := cell_below (by simp) hb
      have e0 : ∀ o, (w2.alloc o).cell? ⟨w1.heap.size, 0, none⟩ = some (.int .i64 k) := fun o => cell_below c0 ((Below.refl w2.heap.size w2).alloc (Nat.le_refl _) o)
      have e1 : ∀ o, (w2.alloc o).cell? ⟨w1.heap.size, 1, none⟩ = some (.string c) := fun o => cell_below c1 ((Below.refl w2.heap.size w2).alloc (Nat.le_refl _) o)
      have e2 : ∀ o, (w2.alloc o).cell? ⟨w1.heap.size, 2, none⟩ = some (.string h) := fun o => cell_below c2 ((Below.refl w2.heap.size w2).alloc (Nat.le_refl _) o)
      have e3 : ∀ o, (w2.alloc o).cell? ⟨w1.heap.size, 3, none⟩ = some (.string t) := fun o => cell_below c3 ((Below.refl w2.heap.size w2).alloc (Nat.le_refl _) o)
      have B2 := Lib.hid (Below.next (B1a.out _) hb)
      have B2a := Lib.hid (fun o => B2.out.alloc B2.out.size o)
      clear hb
      go_wp2_with (go_at_call 17; refine (HE.out _).mono ?_; rintro e w3 ⟨rfl, hb⟩; have B3 := Lib.hid (Below.next (show Below w.heap.size w _ from by first | exact B2.out | exact B2a.out _) hb); clear hb)
      go_ret
      exact ⟨rfl, B3.out⟩
  · have hl2 : (1048576 : Int) < (s.size : Int) := by omega
    clear hl
    go_enter Tryd.func10, Tryd.ntmps10
    go_wp2
    go_ret
    exact ⟨rfl, Below.refl _ _⟩
end Go.Proofs.YthheacebafleeaaDoor
