/- Valid phases: the model's and the program's test. -/
import Derived.Test.YtgcaipjknpcepabDoorPhsC
import Derived.Test.YtgcaipjknpcepabDoorPhsL
import Derived.Test.YtgcaipjknpcepabDoorChrI
import Derived.Test.YtgcaipjknpcepabDoorWithinB
namespace Go.Proofs.YtgcaipjknpcepabDoor
open Go.ChangeShapes Go.WideShapes Go.ChangeAt Go.RowKit Pm

/-- The lengths of phases. -/
def lensP (ps : List Ph) : List Int := ps.map (·.2)
def sumP (ps : List Ph) : Int := sumI (lensP ps)
/-- Is a phase valid? -/
def okPh (p : Ph) : Bool := inB 1 600 [p.2] && (p.1.toList.isEmpty || colB p.1)
/-- Are phases valid? -/
def validP (ps : List Ph) : Bool := decide (1 ≤ ps.length) && decide (ps.length ≤ 40) && ps.all okPh && decide (sumP ps ≤ 600)
theorem sumP_snoc (ps : List Ph) (p : Ph) : sumP (ps ++ [p]) = sumP ps + p.2 := by
  unfold sumP lensP; rw [List.map_append, sumI_append]; simp [sumI]
theorem sumP_take (ps : List Ph) (k : Nat) (h : k < ps.length) : sumP (ps.take (k + 1)) = sumP (ps.take k) + (ps.getD k ph0).2 := by
  rw [ph_take ps k h, sumP_snoc]
theorem all_take {ps : List Ph} (k : Nat) (h : k < ps.length) : (ps.take (k + 1)).all okPh = ((ps.take k).all okPh && okPh (ps.getD k ph0)) := by
  rw [ph_take ps k h, List.all_append]; simp
theorem all_no {ps : List Ph} {k : Nat} (h : k < ps.length) (hb : okPh (ps.getD k ph0) = false) : ps.all okPh = false := by
  rw [← Bool.not_eq_true, List.all_eq_true]
  intro hall
  have := hall _ (List.getElem_mem h)
  rw [ph_getD ps k h, this] at hb; cases hb
theorem validP_long {ps : List Ph} (h : ¬ (1 ≤ ps.length ∧ ps.length ≤ 40)) : validP ps = false := by
  unfold validP
  by_cases h1 : 1 ≤ ps.length
  · rw [decide_eq_false (show ¬ ps.length ≤ 40 by omega), Bool.and_false]; rfl
  · rw [decide_eq_false h1]; rfl
theorem validP_all {ps : List Ph} (h : ps.all okPh = false) : validP ps = false := by
  unfold validP; rw [h, Bool.and_false, Bool.false_and]
theorem validP_sum {ps : List Ph} (h1 : 1 ≤ ps.length) (h2 : ps.length ≤ 40) (h : ps.all okPh = true) : validP ps = decide (sumP ps ≤ 600) := by
  unfold validP; rw [h, decide_eq_true h1, decide_eq_true h2]; rfl
/-- What holds of valid phases. -/
structure ValP (ps : List Ph) : Prop where
  pos : 1 ≤ ps.length
  most : ps.length ≤ 40
  sum : sumP ps ≤ 600
  len : ∀ p ∈ ps, 1 ≤ p.2 ∧ p.2 ≤ 600
  col : ∀ p ∈ ps, p.1.toList = [] ∨ colB p.1 = true
theorem validP_out {ps : List Ph} (h : validP ps = true) : ValP ps := by
  simp only [validP, Bool.and_eq_true, decide_eq_true_eq, List.all_eq_true, okPh, Bool.or_eq_true, List.isEmpty_iff] at h
  exact ⟨h.1.1.1, h.1.1.2, h.2, fun p hp => by simpa [inB] using (h.1.2 p hp).1, fun p hp => (h.1.2 p hp).2⟩
theorem okPh_bd {ps : List Ph} (h : ps.all okPh = true) : ∀ k, k ≤ ps.length → (k : Int) ≤ sumP (ps.take k) ∧ sumP (ps.take k) ≤ k * 600
  | 0, _ => by simp [sumP, lensP, sumI]
  | k + 1, hk => by
    obtain ⟨i1, i2⟩ := okPh_bd h k (by omega)
    have hp := List.all_eq_true.1 h _ (List.getElem_mem (show k < ps.length by omega))
    simp only [okPh, Bool.and_eq_true] at hp
    have hp1 : 1 ≤ (ps[k]).2 ∧ (ps[k]).2 ≤ 600 := by simpa [inB] using hp.1
    rw [sumP_take ps k (by omega), ph_getD ps k (by omega)]
    omega

theorem sval_any (v : Value) (ps : List Ph) (w : World) (hm : ps.length ≤ 1048576) (h : PhAre w v ps) :
    Calls Tryd.prog 21 #[v] w fun e w' => e = .returned (.bool (validP ps)) ∧ w = w' := by
  obtain ⟨a, c, rfl, h⟩ := h
  by_cases hl : 1 ≤ ps.length ∧ ps.length ≤ 40
  · obtain ⟨l1, l2⟩ := hl
    obtain ⟨b, off, rfl, hc⟩ := h.2.resolve_left (by intro e; rw [e] at l1; simp at l1)
    have HC := Lib.hid hc
    have HL1 := Lib.hid l1
    have HL2 := Lib.hid l2
    have h1 : ¬ (ps.length : Int) < 1 := by omega
    have h2 : ¬ (40 : Int) < (ps.length : Int) := by omega
    clear hc h
    go_enter Tryd.func21, Tryd.ntmps21
    go_wp2_with (fail)
    go_loop [3, 4] (fun f i => ∃ (k : Nat) (x : Int), k ≤ ps.length ∧ i = .int .i64 k ∧ f = .int .i64 x ∧ (ps.take k).all okPh = true ∧ x = sumP (ps.take k) ∧ -1 < x ∧ x ≤ k * 600) (fun _ i => ps.length - (intOf i).toNat)
    case atStart => exact ⟨0, 0, Nat.zero_le _, rfl, rfl, rfl, rfl, by omega, by omega⟩
    case round =>
      obtain ⟨k, x, hk, rfl, rfl, ha, hx, x0, x1⟩ := hrel
      have HA := Lib.hid ha
      have HX := Lib.hid hx
      clear ha hx
      by_cases hlt : k < ps.length
      · have hkn : (k : Int) < (ps.length : Int) := by omega
        have c0 := (HC.out k hlt).1
        have c1 := (HC.out k hlt).2
        have HS := Lib.hid (sumP_take ps k hlt)
        have HT := Lib.hid (all_take k hlt)
        have HNO := Lib.hid (fun h => validP_all (all_no hlt h))
        have HOK := Lib.hid (show okPh (ps.getD k ph0) = (inB 1 600 [(ps.getD k ph0).2] && ((ps.getD k ph0).1.toList.isEmpty || colB (ps.getD k ph0).1)) from rfl)
        generalize ps.getD k ph0 = p at *
        obtain ⟨s, y⟩ := p
        simp only at c0 c1
        cases hin : inB 1 600 [y]
        · have HV := Lib.hid (HNO.out (by rw [HOK.out, hin]; rfl))
          go_wp2_with (go_at_call 38; refine (in_any _ _ _ _).mono ?_; rintro e w' ⟨rfl, rfl⟩)
          go_ret
          exact ⟨retB HV.out.symm, rfl⟩
        · have hy : 1 ≤ y ∧ y ≤ 600 := by simpa [inB] using hin
          obtain ⟨y0, y1⟩ := hy
          cases he : s.toList.isEmpty
          · cases hco : colB s
            · have HV := Lib.hid (HNO.out (by rw [HOK.out]; simp only [hin, he, hco]; rfl))
              go_wp2_with (first
                | (go_at_call 38; refine (in_any _ _ _ _).mono ?_; rintro e w' ⟨rfl, rfl⟩)
                | (go_at_call 39; refine (scol_any _ _).mono ?_; rintro e w' ⟨rfl, rfl⟩))
              go_ret
              exact ⟨retB HV.out.symm, rfl⟩
            · have HV := Lib.hid (show okPh (s, y) = true by rw [HOK.out]; simp only [hin, he, hco]; rfl)
              go_wp2_with (first
                | (go_at_call 38; refine (in_any _ _ _ _).mono ?_; rintro e w' ⟨rfl, rfl⟩)
                | (go_at_call 39; refine (scol_any _ _).mono ?_; rintro e w' ⟨rfl, rfl⟩))
              go_round
              case rel => exact ⟨k + 1, _, by omega, by go_num, rfl, by rw [HT.out, HA.out, HV.out]; rfl, by rw [HS.out, ← HX.out], by omega, by omega⟩
              case measure => simp [intOf]; omega
          · have HV := Lib.hid (show okPh (s, y) = true by rw [HOK.out]; simp only [hin, he]; rfl)
            go_wp2_with (first
              | (go_at_call 38; refine (in_any _ _ _ _).mono ?_; rintro e w' ⟨rfl, rfl⟩))
            go_round
            case rel => exact ⟨k + 1, _, by omega, by go_num, rfl, by rw [HT.out, HA.out, HV.out]; rfl, by rw [HS.out, ← HX.out], by omega, by omega⟩
            case measure => simp [intOf]; omega
      · obtain rfl : k = ps.length := by omega
        have HV := Lib.hid (show validP ps = decide (x ≤ 600) by
          have ha := HA.out
          have hx := HX.out
          rw [List.take_of_length_le (Nat.le_refl _)] at ha hx
          rw [validP_sum HL1.out HL2.out ha, hx])
        go_wp2
        go_ret
        exact ⟨retB HV.out.symm, rfl⟩
  · have HV := Lib.hid (validP_long hl)
    clear h
    by_cases l1 : 1 ≤ ps.length
    · have h1 : ¬ (ps.length : Int) < 1 := by omega
      have h2 : (40 : Int) < (ps.length : Int) := by omega
      clear hl l1
      go_enter Tryd.func21, Tryd.ntmps21
      go_wp2
      go_ret
      exact ⟨retB HV.out.symm, rfl⟩
    · have h1 : (ps.length : Int) < 1 := by omega
      clear hl l1
      go_enter Tryd.func21, Tryd.ntmps21
      go_wp2
      go_ret
      exact ⟨retB HV.out.symm, rfl⟩
theorem lenall_at (b off c : Nat) (ps : List Ph) (w : World) (hl : ps.length ≤ 40) (ha : ps.all okPh = true)
    (hc : ∀ i, i < ps.length → w.cell? ⟨b, off + i * 2, none⟩ = some (.string (ps.getD i ph0).1) ∧ w.cell? ⟨b, off + i * 2 + 1, none⟩ = some (.int .i64 (ps.getD i ph0).2)) :
    Calls Tryd.prog 44 #[.slice (some ⟨b, off, none⟩) ps.length c] w fun e w' => e = .returned (.int .i64 (sumP ps)) ∧ Below w.heap.size w w' := by
  have HC := Lib.hid hc
  have HA := Lib.hid ha
  clear hc ha
  go_enter Tryd.func44, Tryd.ntmps44
  go_wp2_with (fail)
  go_loopw [3, 8] (fun f i wr => ∃ (k : Nat) (x : Int), k ≤ ps.length ∧ i = .int .i64 k ∧ f = .int .i64 x ∧ x = sumP (ps.take k) ∧ Below w.heap.size w wr) (fun _ i _ => ps.length - (intOf i).toNat)
  case atStart => exact ⟨0, 0, Nat.zero_le _, rfl, rfl, rfl, Below.refl _ _⟩
  case round =>
    obtain ⟨k, x, hk, rfl, rfl, hx, hbel⟩ := hrel
    have HB := Lib.hid hbel
    obtain ⟨x0, x1⟩ := okPh_bd HA.out k hk
    rw [← hx] at x0 x1
    have HX := Lib.hid hx
    clear hx
    by_cases hlt : k < ps.length
    · have hkn : (k : Int) < (ps.length : Int) := by omega
      have c0 := cell_below (HC.out k hlt).1 hbel
      have c1 := cell_below (HC.out k hlt).2 hbel
      have HS := Lib.hid (sumP_take ps k hlt)
      obtain ⟨y0, y1⟩ := okPh_bd HA.out (k + 1) hlt
      rw [HS.out, ← HX.out] at y0 y1
      generalize ps.getD k ph0 = p at *
      obtain ⟨s, y⟩ := p
      simp only at c0 c1 y0 y1
      clear hbel
      go_wp2
      go_roundw
      case rel => exact ⟨k + 1, _, by omega, by go_num, rfl, by rw [HS.out, ← HX.out], HB.out.alloc HB.out.size _⟩
      case measure => simp [intOf]; omega
    · obtain rfl : k = ps.length := by omega
      have HV := Lib.hid (show sumP ps = x by have := HX.out; rw [List.take_of_length_le (Nat.le_refl _)] at this; exact this.symm)
      clear hbel
      go_wp2
      go_ret
      exact ⟨ret_i HV.out.symm, HB.out⟩
set_option maxHeartbeats 1000000 in
theorem val_any (v : Value) (ps : List Ph) (w : World) (hm : ps.length ≤ 1048576) (h : PhAre w v ps) :
    Calls Tryd.prog 26 #[v] w fun e w' => e = .returned (.bool (validP ps)) ∧ Below w.heap.size w w' := by
  obtain ⟨a, c, rfl, h⟩ := h
  have H1 := ints_one w .i64 (ps.length : Int) 3
  by_cases hl : 1 ≤ ps.length ∧ ps.length ≤ 40
  · obtain ⟨l1, l2⟩ := hl
    obtain ⟨b, off, rfl, hc⟩ := h.2.resolve_left (by intro e; rw [e] at l1; simp at l1)
    have HC := Lib.hid hc
    have HL1 := Lib.hid l1
    have HL2 := Lib.hid l2
    have hin0 : inB 1 40 [(ps.length : Int)] = true := by simp [inB]; omega
    clear hc h
    go_enter Tryd.func26, Tryd.ntmps26
    go_wp2_with (go_at_call 41; refine (within_int _ _ _ _ _ H1).mono ?_; rintro e w1 ⟨rfl, hw1⟩; refine Hid.out ?_)
    refine Lib.hid ?_
    have HB0 := Lib.hid (show Below w.heap.size w w1 by rw [← hw1]; exact (Below.refl _ _).alloc (Nat.le_refl _) _)
    clear hw1 H1
    go_wp2_with (fail)
    go_loopw [12] (fun i wr => ∃ (k : Nat), k ≤ ps.length ∧ i = .int .i64 k ∧ (ps.take k).all okPh = true ∧ Below w.heap.size w wr) (fun i _ => ps.length - (intOf i).toNat)
    case atStart => exact ⟨0, Nat.zero_le _, rfl, rfl, HB0.out⟩
    case round =>
      obtain ⟨k, hk, rfl, ha, hbel⟩ := hrel
      have HA := Lib.hid ha
      have HB := Lib.hid hbel
      clear ha
      by_cases hlt : k < ps.length
      · have hkn : (k : Int) < (ps.length : Int) := by omega
        have c0 := cell_below (HC.out k hlt).1 hbel
        have c1 := cell_below (HC.out k hlt).2 hbel
        have HT := Lib.hid (all_take k hlt)
        have HNO := Lib.hid (fun h => validP_all (all_no hlt h))
        have HOK := Lib.hid (show okPh (ps.getD k ph0) = (inB 1 600 [(ps.getD k ph0).2] && ((ps.getD k ph0).1.toList.isEmpty || colB (ps.getD k ph0).1)) from rfl)
        generalize ps.getD k ph0 = p at *
        obtain ⟨s, y⟩ := p
        simp only at c0 c1
        have hsz := HB.out.size
        have HE := Lib.hid (show Below w.heap.size w ((wr.alloc (.cells #[.string s, .int .i64 y] 43)).alloc (.cells #[.int .i64 y] 2)) from (HB.out.alloc HB.out.size _).alloc (by have := HB.out.size; simp; omega) _)
        have HE1 := Lib.hid (show Below w.heap.size w (wr.alloc (.cells #[.string s, .int .i64 y] 43)) from HB.out.alloc HB.out.size _)
        clear hbel
        cases he : s.toList.isEmpty
        · cases hco : colB s
          · have HV := Lib.hid (HNO.out (by rw [HOK.out]; simp only [he, hco]; simp))
            go_wp2_with (first
              | (go_at_call 42; refine (hascol_any _ _).mono ?_; rintro e w' ⟨rfl, rfl⟩))
            go_ret
            exact ⟨retB HV.out.symm, HE1.out⟩
          · cases hin : inB 1 600 [y]
            · have HV := Lib.hid (HNO.out (by rw [HOK.out, hin]; rfl))
              go_wp2_with (first
                | (go_at_call 42; refine (hascol_any _ _).mono ?_; rintro e w' ⟨rfl, rfl⟩)
                | (go_at_call 43; refine (within_any _ _ _ _ _ (ints_one_at _ _ _ (by simp))).mono ?_; rintro e w' ⟨rfl, rfl⟩))
              go_ret
              exact ⟨retB HV.out.symm, HE.out⟩
            · have HV := Lib.hid (show okPh (s, y) = true by rw [HOK.out]; simp only [hin, he, hco]; rfl)
              go_wp2_with (first
                | (go_at_call 42; refine (hascol_any _ _).mono ?_; rintro e w' ⟨rfl, rfl⟩)
                | (go_at_call 43; refine (within_any _ _ _ _ _ (ints_one_at _ _ _ (by simp))).mono ?_; rintro e w' ⟨rfl, rfl⟩))
              go_roundw
              case rel => exact ⟨k + 1, by omega, by go_num, by rw [HT.out, HA.out, HV.out]; rfl, HE.out⟩
              case measure => simp [intOf]; omega
        · cases hin : inB 1 600 [y]
          · have HV := Lib.hid (HNO.out (by rw [HOK.out, hin]; rfl))
            go_wp2_with (first
              | (go_at_call 43; refine (within_any _ _ _ _ _ (ints_one_at _ _ _ (by simp))).mono ?_; rintro e w' ⟨rfl, rfl⟩))
            go_ret
            exact ⟨retB HV.out.symm, HE.out⟩
          · have HV := Lib.hid (show okPh (s, y) = true by rw [HOK.out]; simp only [hin, he]; rfl)
            go_wp2_with (first
              | (go_at_call 43; refine (within_any _ _ _ _ _ (ints_one_at _ _ _ (by simp))).mono ?_; rintro e w' ⟨rfl, rfl⟩))
            go_roundw
            case rel => exact ⟨k + 1, by omega, by go_num, by rw [HT.out, HA.out, HV.out]; rfl, HE.out⟩
            case measure => simp [intOf]; omega
      · obtain rfl : k = ps.length := by omega
        have ha := HA.out
        rw [List.take_of_length_le (Nat.le_refl _)] at ha
        have HV := Lib.hid (validP_sum HL1.out HL2.out ha)
        have HLN := Lib.hid (fun w hc => lenall_at b off c ps w HL2.out ha hc)
        have HCB := Lib.hid (fun i hi => And.intro (cell_below (HC.out i hi).1 hbel) (cell_below (HC.out i hi).2 hbel))
        obtain ⟨z, hz⟩ : ∃ z, z = sumP ps := ⟨_, rfl⟩
        rw [← hz] at HLN HV
        clear ha hbel hz
        go_wp2_with (go_at_call 44; refine (HLN.out _ HCB.out).mono ?_; rintro e w' ⟨rfl, hb⟩; have HBN := Lib.hid (Below.next HB.out hb); clear hb)
        go_ret
        exact ⟨retB HV.out.symm, HBN.out⟩
  · have HV := Lib.hid (validP_long hl)
    have hin : inB 1 40 [(ps.length : Int)] = false := by simp [inB]; omega
    clear h
    go_enter Tryd.func26, Tryd.ntmps26
    go_wp2_with (go_at_call 41; refine (within_int _ _ _ _ _ H1).mono ?_; rintro e w1 ⟨rfl, hw1⟩)
    go_ret
    exact ⟨retB HV.out.symm, by rw [← hw1]; exact (Below.refl _ _).alloc (Nat.le_refl _) _⟩

end Go.Proofs.YtgcaipjknpcepabDoor
