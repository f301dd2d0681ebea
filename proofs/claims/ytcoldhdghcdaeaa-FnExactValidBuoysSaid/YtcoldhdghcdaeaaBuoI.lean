/- A valid list of buoys: pure, the program's test. -/
import Derived.Test.YtcoldhdghcdaeaaBuo
import Derived.Test.YtcoldhdghcdaeaaWithin
namespace Go.Proofs.Ytcoldhdghcdaeaa
open Go.ChangeShapes Go.WideShapes Go.ChangeAt Go.RowKit Pm

/-- Is a buoy at a valid point, with a look? -/
def okBuy (p : Buy) : Bool := inB 0 200000 [p.1, p.2.1] && inB 1 9 [p.2.2]
/-- Is a list of buoys valid? -/
def validBs (ps : List Buy) : Bool := decide (ps.length ≤ 64) && ps.all okBuy
theorem buys_upto (ps : List Buy) (k : Nat) (h : ∀ i, i < k → okBuy (ps.getD i buy0) = true) (hk : ps.length ≤ k) : ps.all okBuy = true := by
  rw [List.all_eq_true]
  intro p hp
  obtain ⟨i, hi, rfl⟩ := List.getElem_of_mem hp
  have := h i (by omega)
  simpa [hi] using this
theorem buys_bad (ps : List Buy) (k : Nat) (hk : k < ps.length) (h : okBuy (ps.getD k buy0) = false) : ps.all okBuy = false := by
  rw [← Bool.not_eq_true, List.all_eq_true]
  intro hall
  have := hall _ (List.getElem_mem hk)
  simp [hk] at h
  rw [h] at this
  exact absurd this (by simp)

theorem look_any (k : Int) (w : World) :
    Calls Try.prog 65 #[.int .i64 k] w fun e w' => e = .returned (.bool (inB 1 9 [k])) ∧ Below w.heap.size w w' := by
  have HW := Lib.hid (within_any 1 9 _ [k] _ (ints_one_at w k w.heap.size rfl))
  generalize inB 1 9 [k] = r at *
  go_enter Try.func65, Try.ntmps65
  go_wp2_with (go_at_call 44; (refine HW.out.mono ?_); rintro e w1 ⟨rfl, rfl⟩)
  go_ret
  exact ⟨rfl, by go_grown⟩
theorem buy1_any (x y k : Int) (w : World) :
    Calls Try.prog 64 #[.agg #[.int .i64 x, .int .i64 y, .int .i64 k]] w fun e w' => e = .returned (.bool (!okBuy (x, y, k))) ∧ Below w.heap.size w w' := by
  have HO := Lib.hid (fun w' => ok_any x y w')
  have HL := Lib.hid (fun w' => look_any k w')
  obtain ⟨r, hr⟩ : ∃ r, r = okBuy (x, y, k) := ⟨_, rfl⟩
  obtain ⟨a, ha⟩ : ∃ a, a = inB 0 200000 [x, y] := ⟨_, rfl⟩
  obtain ⟨b, hb⟩ : ∃ b, b = inB 1 9 [k] := ⟨_, rfl⟩
  rw [← ha] at HO
  rw [← hb] at HL
  have hR := Lib.hid (show (!r) = (if a then !b else true) by rw [hr, ha, hb]; unfold okBuy; cases inB 0 200000 [x, y] <;> simp)
  rw [← hr]
  clear hr ha hb
  cases a
  · go_enter Try.func64, Try.ntmps64
    go_wp2_with (go_at_call 56; (refine (HO.out _).mono ?_); rintro e w1 ⟨rfl, hb⟩; have ac := Below.next (a := w) (by go_grown) hb; clear hb)
    go_ret
    exact ⟨retB hR.out.symm, by go_grown⟩
  · go_enter Try.func64, Try.ntmps64
    go_wp2_with (first
      | (go_at_call 56; (refine (HO.out _).mono ?_); rintro e w1 ⟨rfl, hb⟩; have c0 := cell_below (a := ⟨w.heap.size, 2, none⟩) (v := .int .i64 k) (by go_cell) hb; have ac := Below.next (a := w) (by go_grown) hb; clear hb)
      | (go_at_call 65; (refine (HL.out _).mono ?_); rintro e w2 ⟨rfl, hb⟩; have ac2 := Below.next (a := w) (by go_grown) hb; clear hb))
    go_ret
    exact ⟨retB hR.out.symm, by go_grown⟩
/-- The place of the first buoy that is not valid; -1 if there is none. -/
def badBuy (ps : List Buy) (r : Int) : Prop := (r = -1 ∧ ps.all okBuy = true) ∨ ∃ k : Nat, r = k ∧ k < ps.length ∧ ps.all okBuy = false
theorem badBuy_ge {ps : List Buy} {r : Int} (h : badBuy ps r) : (!decide (0 ≤ r)) = ps.all okBuy ∧ -1 ≤ r := by
  rcases h with ⟨rfl, h⟩ | ⟨k, rfl, _, h⟩
  · rw [h]; exact ⟨by decide, by omega⟩
  · rw [h]; exact ⟨by simp, by omega⟩
set_option maxHeartbeats 1000000 in
theorem buyindex_any (sv : Value) (ps : List Buy) (w : World) (hl : ps.length ≤ 1048576) (hs : BuyAre w sv ps) :
    Calls Try.prog 96 #[sv, .func (.func 64) #[] #[]] w fun e w' => ∃ r, badBuy ps r ∧ e = .returned (.int .i64 r) ∧ Below w.heap.size w w' := by
  obtain ⟨a, cap, rfl, _, h⟩ := hs
  rcases h with rfl | ⟨b, off, rfl, hc⟩
  · go_enter Try.func96, Try.ntmps96
    go_wp2
    go_rounds 1
    go_ret
    exact ⟨-1, .inl ⟨rfl, rfl⟩, rfl, Below.refl _ _⟩
  · have HC := Lib.hid hc; clear hc
    go_enter Try.func96, Try.ntmps96
    go_wp2_with (fail)
    go_loopw [8] (fun i wr => ∃ k : Nat, k ≤ ps.length ∧ i = .int .i64 k ∧ (∀ j, j < k → okBuy (ps.getD j buy0) = true) ∧ Below w.heap.size w wr) (fun i _ => ps.length - (intOf i).toNat)
    case atStart => exact ⟨0, Nat.zero_le _, rfl, fun j hj => by omega, Below.refl _ _⟩
    case round =>
      obtain ⟨k, hk, rfl, hall, hbel⟩ := hrel
      have HALL := Lib.hid hall
      have HB := Lib.hid hbel
      clear hall
      by_cases hlt : k < ps.length
      · have c0 := cell_below (HC.out k hlt).1 hbel
        have c1 := cell_below (HC.out k hlt).2.1 hbel
        have c2 := cell_below (HC.out k hlt).2.2 hbel
        obtain ⟨r, hr⟩ : ∃ r, r = okBuy (ps.getD k buy0) := ⟨_, rfl⟩
        have H1 := Lib.hid (fun w' => buy1_any (ps.getD k buy0).1 (ps.getD k buy0).2.1 (ps.getD k buy0).2.2 w')
        rw [show ((ps.getD k buy0).1, (ps.getD k buy0).2.1, (ps.getD k buy0).2.2) = ps.getD k buy0 from rfl, ← hr] at H1
        have HK := Lib.hid hr
        generalize (ps.getD k buy0).1 = x at *
        generalize (ps.getD k buy0).2.1 = y at *
        generalize (ps.getD k buy0).2.2 = s at *
        clear hbel hr
        have hkn : (k : Int) < (ps.length : Int) := by omega
        cases r
        · go_wp2_with (go_at_call 64; (refine (H1.out _).mono ?_); rintro e w1 ⟨rfl, hb⟩; have ac := HB.out.trans (hb.mono HB.out.size); clear hb)
          go_ret
          exact ⟨k, .inr ⟨k, rfl, hlt, buys_bad ps k hlt HK.out.symm⟩, rfl, by assumption⟩
        · go_wp2_with (go_at_call 64; (refine (H1.out _).mono ?_); rintro e w1 ⟨rfl, hb⟩; have ac := HB.out.trans (hb.mono HB.out.size); clear hb)
          go_roundw
          case rel => exact ⟨k + 1, by omega, by go_num, fun j hj => by
            by_cases h : j < k
            · exact HALL.out j h
            · obtain rfl : j = k := by omega
              exact HK.out.symm, by assumption⟩
          case measure => simp [intOf]; omega
      · clear hbel
        go_wp2
        go_ret
        exact ⟨-1, .inl ⟨rfl, buys_upto ps k HALL.out (by omega)⟩, rfl, HB.out⟩
theorem validbuoys_any (sv : Value) (ps : List Buy) (w : World) (hl : ps.length ≤ 1048576) (hs : BuyAre w sv ps) :
    Calls Try.prog 31 #[sv] w fun e w' => e = .returned (.bool (validBs ps)) ∧ Below w.heap.size w w' := by
  have HI := Lib.hid (buyindex_any sv ps w hl hs)
  obtain ⟨a, cap, rfl, _⟩ := hs
  by_cases h64 : ps.length ≤ 64
  · have hA := Lib.hid (show validBs ps = ps.all okBuy by unfold validBs; simp [h64])
    have h642 : (ps.length : Int) ≤ 64 := by omega
    clear h64
    go_enter Try.func31, Try.ntmps31
    go_wp2_with (first | (go_at_call 63; go_in) | (go_at_call 96; refine HI.out.mono ?_; rintro e w1 ⟨r, hr, rfl, hb⟩))
    go_ret
    exact ⟨retB ((badBuy_ge hr).1.trans hA.out.symm), by go_grown⟩
  · have hA := Lib.hid (show validBs ps = false by unfold validBs; simp [h64])
    have h642 : ¬ (ps.length : Int) ≤ 64 := by omega
    clear h64 HI
    go_enter Try.func31, Try.ntmps31
    go_wp2
    go_ret
    exact ⟨retB hA.out.symm, by go_grown⟩
end Go.Proofs.Ytcoldhdghcdaeaa
