/- A valid channel: pure, the program's test. -/
import Derived.Test.YtlelcecbpahliaaGreatDoorChnE
import Derived.Test.YtlelcecbpahliaaGreatDoorNam2
import Derived.Test.YtlelcecbpahliaaGreatDoorAre
import Derived.Test.YtlelcecbpahliaaGreatDoorWithin
import Derived.Test.YtlelcecbpahliaaGreatDoorWithinB
namespace Go.Proofs.YtlelcecbpahliaaGreatDoor
open Go.ChangeShapes Go.WideShapes Go.ChangeAt Go.RowKit Pm

abbrev Pts := List (Int × Int)
/-- Is a point of a line equal to the one before? -/
def stopB (ps : Pts) : Bool := (List.range ps.length).any fun i => decide (0 < i) && ptB (ps.getD i (0, 0)) (ps.getD (i - 1) (0, 0))
theorem stop_no {ps : Pts} (h : ∀ i, 0 < i → i < ps.length → ptB (ps.getD i (0, 0)) (ps.getD (i - 1) (0, 0)) = false) : stopB ps = false := by
  unfold stopB
  rw [List.any_eq_false]
  intro i hi
  rw [List.mem_range] at hi
  by_cases h0 : 0 < i
  · rw [h i h0 hi, Bool.and_false]; simp
  · simp [h0]
theorem stop_yes {ps : Pts} {k : Nat} (h0 : 0 < k) (hk : k < ps.length) (h : ptB (ps.getD k (0, 0)) (ps.getD (k - 1) (0, 0)) = true) : stopB ps = true := by
  unfold stopB
  rw [List.any_eq_true]
  exact ⟨k, List.mem_range.2 hk, by rw [h]; simp [h0]⟩
theorem stop_apart {ps : Pts} (h : stopB ps = false) {k : Nat} (h0 : 0 < k) (hk : k < ps.length) : ptB (ps.getD k (0, 0)) (ps.getD (k - 1) (0, 0)) = false := by
  cases e : ptB (ps.getD k (0, 0)) (ps.getD (k - 1) (0, 0))
  · rfl
  · rw [stop_yes h0 hk e] at h; cases h
/-- Is a channel valid? -/
def okC (s : ByteArray) (ps : Pts) (z : Int) : Bool := nameB s.data.toList && (inB 2 12 [(ps.length : Int)] && (ps.all okB && (!stopB ps && inB 10 5000 [z])))

set_option maxRecDepth 100000 in
set_option maxHeartbeats 1000000 in
theorem hasstop_any (v : Value) (ps : Pts) (w : World) (hm : ps.length ≤ 1048576) (h : PtsL w v ps) :
    Calls Tryz.prog 75 #[v] w fun e w' => e = .returned (.bool (stopB ps)) ∧ Below w.heap.size w w' := by
  obtain ⟨a, c, rfl, h⟩ := h
  rcases h with ⟨hv, rfl⟩ | ⟨b, off, cap, hv, _, hc⟩
  · have HV := Lib.hid (show stopB [] = false from rfl)
    obtain ⟨rfl, _, rfl⟩ : a = none ∧ True ∧ c = 0 := by simpa using hv
    clear hv
    go_enter Tryz.func75, Tryz.ntmps75
    go_wp2
    go_rounds 1
    go_ret
    exact ⟨retB HV.out.symm, Below.refl _ _⟩
  · obtain ⟨rfl, _, rfl⟩ : a = some ⟨b, off, none⟩ ∧ True ∧ c = cap := by simpa using hv
    have HC := Lib.hid hc
    clear hv hc
    by_cases h1 : ps.length = 0
    · have HV := Lib.hid (stop_no (ps := ps) (fun i _ hi => by omega))
      obtain rfl := List.length_eq_zero_iff.1 h1
      go_enter Tryz.func75, Tryz.ntmps75
      go_wp2
      go_rounds 1
      go_ret
      exact ⟨retB HV.out.symm, Below.refl _ _⟩
    obtain ⟨n, hn⟩ : ∃ n, n = ps.length := ⟨_, rfl⟩
    have HN := Lib.hid hn
    rw [← hn] at hm h1 ⊢
    clear hn
    go_enter Tryz.func75, Tryz.ntmps75
    go_wp2_with (fail)
    go_loopw [3] (fun i wr => ∃ k : Nat, k + 1 ≤ n ∧ i = .int .i64 ((k + 1 : Nat) : Int) ∧ (∀ j, 0 < j → j < k + 1 → ptB (ps.getD j (0, 0)) (ps.getD (j - 1) (0, 0)) = false) ∧ ∃ m, wr = w.drewN m) (fun i _ => n - (intOf i).toNat)
    case atStart => exact ⟨0, by omega, rfl, fun j h0 hj => by omega, 0, rfl⟩
    case round =>
      obtain ⟨k, hk, rfl, hj, m, rfl⟩ := hrel
      have HJ := Lib.hid hj
      clear hj
      by_cases hlt : k + 1 < n
      · have hkn : ((k + 1 : Nat) : Int) < (n : Int) := by omega
        have e0 := (HC.out (k + 1) (by have := HN.out; omega)).1
        have e1 := (HC.out (k + 1) (by have := HN.out; omega)).2
        have e2 := (HC.out k (by have := HN.out; omega)).1
        have e3 := (HC.out k (by have := HN.out; omega)).2
        have hidx : ((k + 1 : Nat) : Int) - 1 = (k : Int) := by omega
        have hgd := ptGuard
        have hne := fun w => ptEql (ps.getD (k + 1) (0, 0)).1 (ps.getD k (0, 0)).1 (ps.getD (k + 1) (0, 0)).2 (ps.getD k (0, 0)).2 w
        cases hb : ptB (ps.getD (k + 1) (0, 0)) (ps.getD k (0, 0))
        · have HR := Lib.hid hb
          rw [show ptB ((ps.getD (k + 1) (0, 0)).1, (ps.getD (k + 1) (0, 0)).2) ((ps.getD k (0, 0)).1, (ps.getD k (0, 0)).2) = false from hb] at hne
          clear hb
          generalize (ps.getD (k + 1) (0, 0)).1 = x at *
          generalize (ps.getD (k + 1) (0, 0)).2 = y at *
          generalize (ps.getD k (0, 0)).1 = x' at *
          generalize (ps.getD k (0, 0)).2 = y' at *
          go_wp2_with (fail)
          go_quiet (fail)
          go_wp2
          go_roundw
          case rel => exact ⟨k + 1, by omega, by go_num, fun j h0 hj => by
            by_cases e : j < k + 1
            · exact HJ.out j h0 e
            · obtain rfl : j = k + 1 := by omega
              exact HR.out, _, rfl⟩
          case measure => simp [intOf]; omega
        · have HR := Lib.hid (stop_yes (ps := ps) (k := k + 1) (by omega) (by have := HN.out; omega) hb)
          rw [show ptB ((ps.getD (k + 1) (0, 0)).1, (ps.getD (k + 1) (0, 0)).2) ((ps.getD k (0, 0)).1, (ps.getD k (0, 0)).2) = true from hb] at hne
          clear hb
          generalize (ps.getD (k + 1) (0, 0)).1 = x at *
          generalize (ps.getD (k + 1) (0, 0)).2 = y at *
          generalize (ps.getD k (0, 0)).1 = x' at *
          generalize (ps.getD k (0, 0)).2 = y' at *
          go_wp2_with (fail)
          go_quiet (fail)
          go_wp2
          go_ret
          exact ⟨retB HR.out.symm, by first | exact below_drewN (below_drewN (Below.refl _ _) _) _ | exact below_drewN (Below.refl _ _) _⟩
      · have hge : ¬ ((k + 1 : Nat) : Int) < (n : Int) := by omega
        have HR := Lib.hid (stop_no (ps := ps) (fun i h0 hi => HJ.out i h0 (by have := HN.out; omega)))
        go_wp2
        go_ret
        exact ⟨retB HR.out.symm, below_drewN (Below.refl _ _) _⟩

theorem pts_len {w : World} {v : Value} {ps : Pts} (h : PtsL w v ps) : ∃ a c, v = .slice a ps.length c := by
  obtain ⟨a, c, rfl, _⟩ := h
  exact ⟨a, c, rfl⟩
set_option maxHeartbeats 4000000 in
set_option maxRecDepth 100000 in
theorem validchn_any (s : ByteArray) (z : Int) (v : Value) (ps : Pts) (w : World) (hs : s.size ≤ maxLen) (hm : ps.length ≤ 1048576) (h : PtsL w v ps) :
    Calls Tryz.prog 42 #[.agg #[.string s, v, .int .i64 z]] w fun e w' => e = .returned (.bool (okC s ps z)) ∧ Below w.heap.size w w' := by
  have HP := Lib.hid h
  have HI := Lib.hid (fun w' => isname_any s w' hs)
  have HW := Lib.hid (fun (w' : World) (m : Nat) (hm : w'.heap.size = m) => within_int 2 12 _ [(ps.length : Int)] _ (show IntsAre .i64 (w'.alloc (.cells #[Value.int .i64 (ps.length : Int)] 3)) (.slice (some ⟨m, 0, none⟩) 1 1) [(ps.length : Int)] from hm ▸ ints_one w' .i64 (ps.length : Int) 3))
  have HA := Lib.hid (fun w' (h : PtsL w' v ps) => arepts_any v ps w' h.are)
  have HS := Lib.hid (fun w' (h : PtsL w' v ps) => hasstop_any v ps w' hm h)
  have HZ := Lib.hid (fun (w' : World) (m : Nat) (hm : w'.heap.size = m) => within_any 10 5000 _ [z] _ (ints_one_at w' z m hm))
  obtain ⟨a, c, rfl⟩ := pts_len h
  have hV : okC s ps z = (nameB s.data.toList && (inB 2 12 [(ps.length : Int)] && (ps.all okB && (!stopB ps && inB 10 5000 [z])))) := rfl
  generalize okC s ps z = V at *
  generalize nameB s.data.toList = b1 at *
  generalize inB 2 12 [(ps.length : Int)] = b2 at *
  generalize ps.all okB = b3 at *
  generalize stopB ps = b4 at *
  generalize inB 10 5000 [z] = b5 at *
  have HV := Lib.hid hV
  clear hV h
  cases b1
  · go_enter Tryz.func42, Tryz.ntmps42
    go_wp2_with (first
      | (go_at_call 73; (refine (HI.out _).mono ?_); rintro e w1 ⟨rfl, hb⟩; have x11 := cell_below (a := ⟨w.heap.size, 1, none⟩) (v := .slice a ps.length c) (by first | assumption | go_cell) hb; have x12 := cell_below (a := ⟨w.heap.size, 2, none⟩) (v := .int .i64 z) (by first | assumption | go_cell) hb; have AC1 := Lib.hid (Below.next (a := w) (show Below w.heap.size w _ from (by first | exact AC0.out | exact AC0.out.alloc AC0.out.size _ | go_grown)) hb); clear hb))
    go_ret
    exact ⟨retB HV.out.symm, AC1.out⟩
  cases b2
  · go_enter Tryz.func42, Tryz.ntmps42
    go_wp2_with (first
      | (go_at_call 73; (refine (HI.out _).mono ?_); rintro e w1 ⟨rfl, hb⟩; have x11 := cell_below (a := ⟨w.heap.size, 1, none⟩) (v := .slice a ps.length c) (by first | assumption | go_cell) hb; have x12 := cell_below (a := ⟨w.heap.size, 2, none⟩) (v := .int .i64 z) (by first | assumption | go_cell) hb; have AC1 := Lib.hid (Below.next (a := w) (show Below w.heap.size w _ from (by first | exact AC0.out | exact AC0.out.alloc AC0.out.size _ | go_grown)) hb); clear hb)
      | (go_at_call 33; (refine (HW.out _ _ (by simp)).mono ?_); rintro e w2 ⟨rfl, rfl⟩; have AC2 := Lib.hid (AC1.out.alloc AC1.out.size (.cells #[Value.int .i64 (ps.length : Int)] 3)); have x21 := cell_below x11 ((Below.refl _ _).alloc (Nat.le_refl _) (.cells #[Value.int .i64 (ps.length : Int)] 3)); have x22 := cell_below x12 ((Below.refl _ _).alloc (Nat.le_refl _) (.cells #[Value.int .i64 (ps.length : Int)] 3))))
    go_ret
    exact ⟨retB HV.out.symm, AC2.out⟩
  cases b3
  · go_enter Tryz.func42, Tryz.ntmps42
    go_wp2_with (first
      | (go_at_call 73; (refine (HI.out _).mono ?_); rintro e w1 ⟨rfl, hb⟩; have x11 := cell_below (a := ⟨w.heap.size, 1, none⟩) (v := .slice a ps.length c) (by first | assumption | go_cell) hb; have x12 := cell_below (a := ⟨w.heap.size, 2, none⟩) (v := .int .i64 z) (by first | assumption | go_cell) hb; have AC1 := Lib.hid (Below.next (a := w) (show Below w.heap.size w _ from (by first | exact AC0.out | exact AC0.out.alloc AC0.out.size _ | go_grown)) hb); clear hb)
      | (go_at_call 33; (refine (HW.out _ _ (by simp)).mono ?_); rintro e w2 ⟨rfl, rfl⟩; have AC2 := Lib.hid (AC1.out.alloc AC1.out.size (.cells #[Value.int .i64 (ps.length : Int)] 3)); have x21 := cell_below x11 ((Below.refl _ _).alloc (Nat.le_refl _) (.cells #[Value.int .i64 (ps.length : Int)] 3)); have x22 := cell_below x12 ((Below.refl _ _).alloc (Nat.le_refl _) (.cells #[Value.int .i64 (ps.length : Int)] 3)))
      | (go_at_call 74; (refine (HA.out _ (HP.out.below AC2.out)).mono ?_); rintro e w3 ⟨rfl, hb⟩; have x31 := cell_below (a := ⟨w.heap.size, 1, none⟩) (v := .slice a ps.length c) (by first | assumption | go_cell) hb; have x32 := cell_below (a := ⟨w.heap.size, 2, none⟩) (v := .int .i64 z) (by first | assumption | go_cell) hb; have AC3 := Lib.hid (Below.next (a := w) (show Below w.heap.size w _ from (by first | exact AC2.out | exact AC2.out.alloc AC2.out.size _ | go_grown)) hb); clear hb))
    go_ret
    exact ⟨retB HV.out.symm, AC3.out⟩
  cases b4
  rotate_left
  · go_enter Tryz.func42, Tryz.ntmps42
    go_wp2_with (first
      | (go_at_call 73; (refine (HI.out _).mono ?_); rintro e w1 ⟨rfl, hb⟩; have x11 := cell_below (a := ⟨w.heap.size, 1, none⟩) (v := .slice a ps.length c) (by first | assumption | go_cell) hb; have x12 := cell_below (a := ⟨w.heap.size, 2, none⟩) (v := .int .i64 z) (by first | assumption | go_cell) hb; have AC1 := Lib.hid (Below.next (a := w) (show Below w.heap.size w _ from (by first | exact AC0.out | exact AC0.out.alloc AC0.out.size _ | go_grown)) hb); clear hb)
      | (go_at_call 33; (refine (HW.out _ _ (by simp)).mono ?_); rintro e w2 ⟨rfl, rfl⟩; have AC2 := Lib.hid (AC1.out.alloc AC1.out.size (.cells #[Value.int .i64 (ps.length : Int)] 3)); have x21 := cell_below x11 ((Below.refl _ _).alloc (Nat.le_refl _) (.cells #[Value.int .i64 (ps.length : Int)] 3)); have x22 := cell_below x12 ((Below.refl _ _).alloc (Nat.le_refl _) (.cells #[Value.int .i64 (ps.length : Int)] 3)))
      | (go_at_call 74; (refine (HA.out _ (HP.out.below AC2.out)).mono ?_); rintro e w3 ⟨rfl, hb⟩; have x31 := cell_below (a := ⟨w.heap.size, 1, none⟩) (v := .slice a ps.length c) (by first | assumption | go_cell) hb; have x32 := cell_below (a := ⟨w.heap.size, 2, none⟩) (v := .int .i64 z) (by first | assumption | go_cell) hb; have AC3 := Lib.hid (Below.next (a := w) (show Below w.heap.size w _ from (by first | exact AC2.out | exact AC2.out.alloc AC2.out.size _ | go_grown)) hb); clear hb)
      | (go_at_call 75; (refine (HS.out _ (HP.out.below AC3.out)).mono ?_); rintro e w4 ⟨rfl, hb⟩; have x41 := cell_below (a := ⟨w.heap.size, 1, none⟩) (v := .slice a ps.length c) (by first | assumption | go_cell) hb; have x42 := cell_below (a := ⟨w.heap.size, 2, none⟩) (v := .int .i64 z) (by first | assumption | go_cell) hb; have AC4 := Lib.hid (Below.next (a := w) (show Below w.heap.size w _ from (by first | exact AC3.out | exact AC3.out.alloc AC3.out.size _ | go_grown)) hb); clear hb))
    go_ret
    exact ⟨retB HV.out.symm, AC4.out⟩
  cases b5
  · go_enter Tryz.func42, Tryz.ntmps42
    go_wp2_with (first
      | (go_at_call 73; (refine (HI.out _).mono ?_); rintro e w1 ⟨rfl, hb⟩; have x11 := cell_below (a := ⟨w.heap.size, 1, none⟩) (v := .slice a ps.length c) (by first | assumption | go_cell) hb; have x12 := cell_below (a := ⟨w.heap.size, 2, none⟩) (v := .int .i64 z) (by first | assumption | go_cell) hb; have AC1 := Lib.hid (Below.next (a := w) (show Below w.heap.size w _ from (by first | exact AC0.out | exact AC0.out.alloc AC0.out.size _ | go_grown)) hb); clear hb)
      | (go_at_call 33; (refine (HW.out _ _ (by simp)).mono ?_); rintro e w2 ⟨rfl, rfl⟩; have AC2 := Lib.hid (AC1.out.alloc AC1.out.size (.cells #[Value.int .i64 (ps.length : Int)] 3)); have x21 := cell_below x11 ((Below.refl _ _).alloc (Nat.le_refl _) (.cells #[Value.int .i64 (ps.length : Int)] 3)); have x22 := cell_below x12 ((Below.refl _ _).alloc (Nat.le_refl _) (.cells #[Value.int .i64 (ps.length : Int)] 3)))
      | (go_at_call 74; (refine (HA.out _ (HP.out.below AC2.out)).mono ?_); rintro e w3 ⟨rfl, hb⟩; have x31 := cell_below (a := ⟨w.heap.size, 1, none⟩) (v := .slice a ps.length c) (by first | assumption | go_cell) hb; have x32 := cell_below (a := ⟨w.heap.size, 2, none⟩) (v := .int .i64 z) (by first | assumption | go_cell) hb; have AC3 := Lib.hid (Below.next (a := w) (show Below w.heap.size w _ from (by first | exact AC2.out | exact AC2.out.alloc AC2.out.size _ | go_grown)) hb); clear hb)
      | (go_at_call 75; (refine (HS.out _ (HP.out.below AC3.out)).mono ?_); rintro e w4 ⟨rfl, hb⟩; have x41 := cell_below (a := ⟨w.heap.size, 1, none⟩) (v := .slice a ps.length c) (by first | assumption | go_cell) hb; have x42 := cell_below (a := ⟨w.heap.size, 2, none⟩) (v := .int .i64 z) (by first | assumption | go_cell) hb; have AC4 := Lib.hid (Below.next (a := w) (show Below w.heap.size w _ from (by first | exact AC3.out | exact AC3.out.alloc AC3.out.size _ | go_grown)) hb); clear hb)
      | (go_at_call 47; (refine (HZ.out _ _ (by simp)).mono ?_); rintro e w5 ⟨rfl, rfl⟩; have AC5 := Lib.hid (AC4.out.alloc AC4.out.size (.cells #[Value.int .i64 z] 2))))
    go_ret
    exact ⟨retB HV.out.symm, AC5.out⟩
  · go_enter Tryz.func42, Tryz.ntmps42
    go_wp2_with (first
      | (go_at_call 73; (refine (HI.out _).mono ?_); rintro e w1 ⟨rfl, hb⟩; have x11 := cell_below (a := ⟨w.heap.size, 1, none⟩) (v := .slice a ps.length c) (by first | assumption | go_cell) hb; have x12 := cell_below (a := ⟨w.heap.size, 2, none⟩) (v := .int .i64 z) (by first | assumption | go_cell) hb; have AC1 := Lib.hid (Below.next (a := w) (show Below w.heap.size w _ from (by first | exact AC0.out | exact AC0.out.alloc AC0.out.size _ | go_grown)) hb); clear hb)
      | (go_at_call 33; (refine (HW.out _ _ (by simp)).mono ?_); rintro e w2 ⟨rfl, rfl⟩; have AC2 := Lib.hid (AC1.out.alloc AC1.out.size (.cells #[Value.int .i64 (ps.length : Int)] 3)); have x21 := cell_below x11 ((Below.refl _ _).alloc (Nat.le_refl _) (.cells #[Value.int .i64 (ps.length : Int)] 3)); have x22 := cell_below x12 ((Below.refl _ _).alloc (Nat.le_refl _) (.cells #[Value.int .i64 (ps.length : Int)] 3)))
      | (go_at_call 74; (refine (HA.out _ (HP.out.below AC2.out)).mono ?_); rintro e w3 ⟨rfl, hb⟩; have x31 := cell_below (a := ⟨w.heap.size, 1, none⟩) (v := .slice a ps.length c) (by first | assumption | go_cell) hb; have x32 := cell_below (a := ⟨w.heap.size, 2, none⟩) (v := .int .i64 z) (by first | assumption | go_cell) hb; have AC3 := Lib.hid (Below.next (a := w) (show Below w.heap.size w _ from (by first | exact AC2.out | exact AC2.out.alloc AC2.out.size _ | go_grown)) hb); clear hb)
      | (go_at_call 75; (refine (HS.out _ (HP.out.below AC3.out)).mono ?_); rintro e w4 ⟨rfl, hb⟩; have x41 := cell_below (a := ⟨w.heap.size, 1, none⟩) (v := .slice a ps.length c) (by first | assumption | go_cell) hb; have x42 := cell_below (a := ⟨w.heap.size, 2, none⟩) (v := .int .i64 z) (by first | assumption | go_cell) hb; have AC4 := Lib.hid (Below.next (a := w) (show Below w.heap.size w _ from (by first | exact AC3.out | exact AC3.out.alloc AC3.out.size _ | go_grown)) hb); clear hb)
      | (go_at_call 47; (refine (HZ.out _ _ (by simp)).mono ?_); rintro e w5 ⟨rfl, rfl⟩; have AC5 := Lib.hid (AC4.out.alloc AC4.out.size (.cells #[Value.int .i64 z] 2))))
    go_ret
    exact ⟨retB HV.out.symm, AC5.out⟩
end Go.Proofs.YtlelcecbpahliaaGreatDoor
