/- All points valid, by the model. -/
import Derived.Test.YthccbipjmheoaaaDoorSq
import Derived.Deep.RegionHeld3
namespace Go.Proofs.YthccbipjmheoaaaDoor
open Go.ChangeShapes Go.WideShapes Go.ChangeAt Go.RowKit Pm

theorem sall_any (sv : Value) (ps : List (Int × Int)) (w : World) (hs : PtsAre w sv ps) :
    Calls Tryd.prog 26 #[sv] w fun e w' => e = .returned (.bool (ps.all okB)) ∧ Below w.heap.size w w' := by
  rcases hs with ⟨rfl, rfl⟩ | ⟨b, off, cap, rfl, hm, hc⟩
  · go_enter Tryd.func26, Tryd.ntmps26
    go_wp2
    go_rounds 1
    go_ret
    exact ⟨rfl, Below.refl _ _⟩
  · have HC := Lib.hid hc; clear hc
    go_enter Tryd.func26, Tryd.ntmps26
    go_wp2_with (fail)
    go_loopw [3] (fun i wr => ∃ k : Nat, k ≤ ps.length ∧ i = .int .i64 k ∧ (∀ j, j < k → okB (ps.getD j (0, 0)) = true) ∧ Below w.heap.size w wr) (fun i _ => ps.length - (intOf i).toNat)
    case atStart => exact ⟨0, Nat.zero_le _, rfl, fun j hj => by omega, Below.refl _ _⟩
    case round =>
      obtain ⟨k, hk, rfl, hall, hbel⟩ := hrel
      have HALL := Lib.hid hall
      have HB := Lib.hid hbel
      clear hall
      by_cases hlt : k < ps.length
      · have c0 := cell_below (HC.out k hlt).1 hbel
        have c1 := cell_below (HC.out k hlt).2 hbel
        obtain ⟨x, hx⟩ : ∃ x, (ps.getD k (0, 0)).1 = x := ⟨_, rfl⟩
        obtain ⟨y, hy⟩ : ∃ y, (ps.getD k (0, 0)).2 = y := ⟨_, rfl⟩
        rw [hx] at c0
        rw [hy] at c1
        have hok : Hid (okB (ps.getD k (0, 0)) = inB 0 200000 [x, y]) := Lib.hid (by unfold okB; rw [hx, hy])
        clear hx hy hbel
        by_cases hin : inB 0 200000 [x, y] = true
        · go_wp2_with (go_at_call 19; refine (sok_any _ _ _).mono ?_; rintro e w1 ⟨rfl, hb⟩; have ac := HB.out.trans (hb.mono HB.out.size); clear hb)
          go_roundw
          case rel => exact ⟨k + 1, by omega, by go_num, fun j hj => by
            by_cases h : j < k
            · exact HALL.out j h
            · obtain rfl : j = k := by omega
              rw [hok.out]; exact hin, by assumption⟩
          case measure => simp [intOf]; omega
        · have hin2 : inB 0 200000 [x, y] = false := by simpa using hin
          have HV := Lib.hid (all_bad ps k hlt (hok.out.trans hin2))
          go_wp2_with (go_at_call 19; refine (sok_any _ _ _).mono ?_; rintro e w1 ⟨rfl, hb⟩; have ac := HB.out.trans (hb.mono HB.out.size); clear hb)
          go_ret
          exact ⟨by rw [HV.out]; rfl, by assumption⟩
      · clear hbel
        have HV := Lib.hid (all_upto ps k HALL.out (by omega))
        go_wp2
        go_ret
        exact ⟨by rw [HV.out]; rfl, HB.out⟩
end Go.Proofs.YthccbipjmheoaaaDoor
