/- A valid list of buoys: the model's test. -/
import Derived.Test.YtcoldhdghcdaeaaBuoI
import Derived.Test.YtcoldhdghcdaeaaDivS
namespace Go.Proofs.Ytcoldhdghcdaeaa
open Go.ChangeShapes Go.WideShapes Go.ChangeAt Go.RowKit Pm

theorem skindb_any (k : Int) (w : World) :
    Calls Try.prog 95 #[.int .i64 k] w fun e w' => e = .returned (.bool (inB 1 9 [k])) ∧ w = w' := by
  go_enter Try.func95, Try.ntmps95
  go_wp2_with (go_at_call 50; refine (in_any _ _ _ _).mono ?_; rintro e w' ⟨rfl, rfl⟩)
  go_ret
  exact ⟨rfl, rfl⟩
theorem if_both {a b : Bool} (h : true = (if a then b else false)) : a = true ∧ b = true := by cases a <;> cases b <;> simp_all
theorem ok_parts {p : Buy} {r : Bool} (h : r = okBuy p) : r = (if inB 0 200000 [p.1, p.2.1] then inB 1 9 [p.2.2] else false) := by
  rw [h]; unfold okBuy; cases inB 0 200000 [p.1, p.2.1] <;> simp
set_option maxHeartbeats 1000000 in
theorem slist_buys (sv : Value) (ps : List Buy) (w : World) (hl : ps.length ≤ 1048576) (hs : BuyAre w sv ps) :
    Calls Try.prog 61 #[sv] w fun e w' => e = .returned (.bool (validBs ps)) ∧ Below w.heap.size w w' := by
  obtain ⟨a, cap, rfl, _, h⟩ := hs
  rcases h with rfl | ⟨b, off, rfl, hc⟩
  · have hA := Lib.hid (show validBs [] = true from rfl)
    go_enter Try.func61, Try.ntmps61
    go_wp2
    go_rounds 1
    go_ret
    exact ⟨retB hA.out.symm, Below.refl _ _⟩
  · have HC := Lib.hid hc; clear hc
    have HV := Lib.hid (show ∀ r, r = validBs ps → r = validBs ps from fun _ h => h)
    go_enter Try.func61, Try.ntmps61
    go_wp2_with (fail)
    go_loopw [3] (fun i wr => ∃ k : Nat, k ≤ ps.length ∧ i = .int .i64 k ∧ (∀ j, j < k → okBuy (ps.getD j buy0) = true) ∧ Below w.heap.size w wr) (fun i _ => ps.length - (intOf i).toNat)
    case atStart => exact ⟨0, Nat.zero_le _, rfl, fun j hj => by omega, Below.refl _ _⟩
    case round =>
      obtain ⟨k, hk, rfl, hall, hbel⟩ := hrel
      have HALL := Lib.hid hall
      have HB := Lib.hid hbel
      clear hall
      by_cases hlt : k < ps.length
      · have c0 := cell_below (HC.out k hlt).1 hbel
        have c1 := cell_below (HC.out k hlt).2.1 hbel
        have c2 := cell_below (HC.out k hlt).2.2 hbel
        obtain ⟨r, hr⟩ : ∃ r, r = okBuy (ps.getD k buy0) := ⟨_, rfl⟩
        have HP := Lib.hid (ok_parts hr)
        have HK := Lib.hid hr
        generalize (ps.getD k buy0).1 = x at *
        generalize (ps.getD k buy0).2.1 = y at *
        generalize (ps.getD k buy0).2.2 = s at *
        have HO := Lib.hid (fun w' => sok_any x y w')
        have HS := Lib.hid (fun w' => skindb_any s w')
        clear hbel hr
        have hkn : (k : Int) < (ps.length : Int) := by omega
        generalize inB 0 200000 [x, y] = a1 at *
        generalize inB 1 9 [s] = a2 at *
        cases r
        · have HF := Lib.hid (show false = validBs ps by unfold validBs; rw [buys_bad ps k hlt HK.out.symm, Bool.and_false])
          cases a1
          · go_wp2_with (go_at_call 54; (refine (HO.out _).mono ?_); rintro e w1 ⟨rfl, hb⟩; have ac := HB.out.trans (hb.mono HB.out.size); clear hb)
            go_ret
            exact ⟨retB HF.out, by assumption⟩
          · have e2 : a2 = false := HP.out.symm
            subst e2
            go_wp2_with (first
              | (go_at_call 54; (refine (HO.out _).mono ?_); rintro e w1 ⟨rfl, hb⟩; replace c2 := cell_below c2 hb; have ac := HB.out.trans (hb.mono HB.out.size); clear hb)
              | (go_at_call 95; (refine (HS.out _).mono ?_); rintro e w2 ⟨rfl, rfl⟩))
            go_ret
            exact ⟨retB HF.out, by assumption⟩
        · obtain ⟨e1, e2⟩ := if_both HP.out
          subst e1 e2
          go_wp2_with (first
            | (go_at_call 54; (refine (HO.out _).mono ?_); rintro e w1 ⟨rfl, hb⟩; replace c2 := cell_below c2 hb; have ac := HB.out.trans (hb.mono HB.out.size); clear hb)
            | (go_at_call 95; (refine (HS.out _).mono ?_); rintro e w2 ⟨rfl, rfl⟩))
          go_roundw
          case rel => exact ⟨k + 1, by omega, by go_num, fun j hj => by
            by_cases h : j < k
            · exact HALL.out j h
            · obtain rfl : j = k := by omega
              exact HK.out.symm, by assumption⟩
          case measure => simp [intOf]; omega
      · have HF := Lib.hid (show decide ((ps.length : Int) ≤ 64) = validBs ps by unfold validBs; rw [buys_upto ps k HALL.out (by omega), Bool.and_true, decide_eq_decide]; omega)
        clear hbel
        obtain rfl : k = ps.length := by omega
        go_wp2
        go_ret
        exact ⟨by simpa using HF.out, HB.out⟩
theorem svalidbuoys_any (sv : Value) (ps : List Buy) (w : World) (hl : ps.length ≤ 1048576) (hs : BuyAre w sv ps) :
    Calls Try.prog 29 #[sv] w fun e w' => e = .returned (.bool (validBs ps)) ∧ Below w.heap.size w w' := by
  have HS := Lib.hid (slist_buys sv ps w hl hs)
  obtain ⟨a, cap, rfl, _⟩ := hs
  generalize validBs ps = r at *
  go_enter Try.func29, Try.ntmps29
  go_wp2_with (go_at_call 61; refine HS.out.mono ?_; rintro e w1 ⟨rfl, hb⟩; have AC := Lib.hid hb; clear hb)
  go_ret
  exact ⟨rfl, AC.out⟩
end Go.Proofs.Ytcoldhdghcdaeaa
