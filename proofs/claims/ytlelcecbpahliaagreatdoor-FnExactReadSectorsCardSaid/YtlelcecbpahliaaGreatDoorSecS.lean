/- Valid sectors: the model's test. -/
import Derived.Test.YtlelcecbpahliaaGreatDoorSecW
import Derived.Deep.QuietTactic
import Derived.BigQuiet
namespace Go.Proofs.YtlelcecbpahliaaGreatDoor
open Go.ChangeShapes Go.WideShapes Go.ChangeAt Go.RowKit Pm

/-- A callee that reads only, as a region that draws wants it. -/
theorem quiet_eqs {P : Program} {f : FuncId} {args : Array Value} {w : World} {n : Nat} {v : Value}
    (h : Calls P f args (w.drewN n) fun e w' => e = .returned v ∧ w.drewN n = w') : Calls P f args (w.drewN n) fun e w'' => e = .returned v ∧ ∃ m, w'' = w.drewN m :=
  h.mono fun _ _ ⟨he, hm⟩ => ⟨he, n, hm.symm⟩
theorem quiet_drew {P : Program} {f : FuncId} {args : Array Value} {w : World} {n : Nat} {v : Value}
    (h : Calls P f args (w.drewN n) (DrewV v (w.drewN n))) : Calls P f args (w.drewN n) fun e w'' => e = .returned v ∧ ∃ m, w'' = w.drewN m :=
  h.mono fun _ _ ⟨he, m, hm⟩ => ⟨he, n + m, by rw [hm, World.drewN_drewN]⟩
/-- A test's answer: the world but for draws. -/
def DrewB (b : Bool) (w : World) (e : Ending) (w' : World) : Prop := e = .returned (.bool b) ∧ ∃ m, w' = w.drewN m

/-- The world has drawn, no more. -/
def DrewS (w w' : World) : Prop := ∃ n, w' = w.drewN n
theorem DrewS.refl (w : World) : DrewS w w := ⟨0, rfl⟩
theorem DrewS.more {w w' : World} (h : DrewS w w') (n : Nat) : DrewS w (w'.drewN n) := by
  obtain ⟨m, rfl⟩ := h
  exact ⟨m + n, by rw [World.drewN_drewN]⟩
theorem DrewS.sec {w w' : World} (h : DrewS w w') {b o : Nat} {p : Sec} (hs : SecAt w b o p) : SecAt w' b o p := by
  obtain ⟨m, rfl⟩ := h
  exact hs.drewN m

theorem sokay_row (b off c : Nat) (ps : List Sec) (w : World) (h0 : 0 < ps.length) (hl : ps.length ≤ 12) (hc : ∀ i, i < ps.length → SecAt w b (off + i * 3) (ps.getD i sec0)) :
    Calls Tryz.prog 59 #[.slice (some ⟨b, off, none⟩) ps.length c] w (DrewB (validS ps) w) := by
  obtain ⟨n, hn⟩ : ∃ n, n = ps.length := ⟨_, rfl⟩
  have HN := Lib.hid hn
  have HC := Lib.hid hc
  rw [← hn] at hl h0 ⊢
  have h12 : ¬ (12 : Int) < (n : Int) := by omega
  clear hc hn
  go_enter Tryz.func59, Tryz.ntmps59
  go_wp2_with (fail)
  go_loopw [4] (fun i wr => ∃ k : Nat, k ≤ n ∧ i = .int .i64 k ∧ OkUpto ps k ∧ DrewS w wr) (fun i _ => n - (intOf i).toNat)
  case atStart => exact ⟨0, Nat.zero_le _, rfl, OkUpto.zero ps, DrewS.refl w⟩
  case round =>
    obtain ⟨k, hk, rfl, hj, hdr⟩ := hrel
    have HJ := Lib.hid hj
    have HD := Lib.hid hdr
    clear hj hdr
    by_cases hlt : k < n
    · have hkn : (k : Int) < (n : Int) := by omega
      have HO := Lib.hid (fun n => quiet_eqs (w := wr) (n := n) (sone_any b (off + k * 3) (ps.getD k sec0) (wr.drewN n) ((HD.out.sec (HC.out k (by have := HN.out; omega))).drewN n)))
      have e0 := (HD.out.sec (HC.out k (by have := HN.out; omega))).1
      cases hok : okSec (ps.getD k sec0)
      · have HV := Lib.hid (validS_no (no_ok (by have := HN.out; omega) hok))
        rw [hok] at HO
        clear hok e0
        go_wp2_with (fail)
        go_quiet ((go_at_call 93; exact HO.out _))
        go_wp2_with (fail)
        go_ret
        exact ⟨retB HV.out.symm, HD.out.more _⟩
      · rw [hok] at HO
        have HOK := Lib.hid hok
        clear hok
        by_cases hk0 : k = 0
        · subst hk0
          clear e0
          simp only [Nat.zero_mul, Nat.add_zero] at HO
          go_wp2_with (fail)
          go_quiet ((go_at_call 93; exact HO.out _))
          go_wp2_with (fail)
          go_roundw
          case rel => exact ⟨1, by omega, rfl, HJ.out.step HOK.out (fun h => by omega), HD.out.more _⟩
          case measure => simp [intOf]; omega
        · obtain ⟨j, rfl⟩ : ∃ j, k = j + 1 := ⟨k - 1, by omega⟩
          have e1 := (HD.out.sec (HC.out j (by have := HN.out; omega))).1
          have hkp : (0 : Int) < ((j + 1 : Nat) : Int) := by omega
          have hidx : ((j + 1 : Nat) : Int) - 1 = (j : Int) := by omega
          have HL := Lib.hid (show (ps.getD (j + 1) sec0).1 ≤ (ps.getD j sec0).1 → ¬ ValidS ps from fun h => no_rise (i := j + 1) (by have := HN.out; omega) (by omega) (by simpa using h))
          have HG := Lib.hid (show (ps.getD j sec0).1 < (ps.getD (j + 1) sec0).1 → OkUpto ps (j + 1 + 1) from fun h => HJ.out.step HOK.out (fun _ => by simpa using h))
          generalize (ps.getD (j + 1) sec0).1 = x at *
          generalize (ps.getD j sec0).1 = y at *
          by_cases hxy : x ≤ y
          · have HV := Lib.hid (validS_no (HL.out hxy))
            have hd : decide (y < x) = false := by simpa using hxy
            clear hk0
            go_wp2_with (fail)
            go_quiet ((go_at_call 93; exact HO.out _))
            go_wp2_with (fail)
            go_ret
            exact ⟨retB HV.out.symm, HD.out.more _⟩
          · have hlx : y < x := by omega
            have hd : decide (x ≤ y) = false := by simpa using hlx
            clear hk0
            go_wp2_with (fail)
            go_quiet ((go_at_call 93; exact HO.out _))
            go_wp2_with (fail)
            go_roundw
            case rel => exact ⟨j + 1 + 1, by omega, by go_num, HG.out hlx, HD.out.more _⟩
            case measure => simp [intOf]; omega
    · obtain rfl : k = n := by omega
      clear hlt
      have HOK := HJ.out
      by_cases h1 : 1 < k
      · have hn1 : (1 : Int) < (k : Int) := by omega
        go_wp2_with (fail)
        go_loopw [5] (fun i wr => ∃ j : Nat, j ≤ k ∧ i = .int .i64 j ∧ GapUpto ps j ∧ DrewS w wr) (fun i _ => k - (intOf i).toNat)
        case atStart => exact ⟨0, Nat.zero_le _, rfl, GapUpto.zero ps, HD.out⟩
        case round =>
          obtain ⟨j, hj, rfl, hg, hdr⟩ := hrel
          have HG := Lib.hid hg
          have HD := Lib.hid hdr
          have HOK := Lib.hid HOK
          clear hg hdr
          by_cases hlt : j < k
          · have hkn : (j : Int) < (k : Int) := by omega
            have hjl : j < ps.length := by have := HN.out; omega
            have hql : (j + 1) % k < ps.length := by have := HN.out; have := Nat.mod_lt (j + 1) (show 0 < k by omega); omega
            have hpk := (HOK.out j (by omega)).1
            have hqk := (HOK.out ((j + 1) % k) (Nat.mod_lt _ (by omega))).1
            have HA := Lib.hid (fun n => quiet_drew (w := wr) (n := n) (sarc_any b (off + j * 3) (ps.getD j sec0) (wr.drewN n) ((HD.out.sec (HC.out j hjl)).drewN n) (okSec_endsB hpk)))
            have e0 := (HD.out.sec (HC.out j hjl)).1
            have e1 := (HD.out.sec (HC.out ((j + 1) % k) hql)).1
            have hidx : ((j : Int) + 1).tmod (k : Int) = (((j + 1) % k : Nat) : Int) := by
              rw [Int.tmod_eq_emod_of_nonneg (by omega)]; rfl
            have hq1 : (j + 1) % k < k := Nat.mod_lt _ (by omega)
            have HS := Lib.hid (show arcV (ps.getD j sec0).1 (ps.getD j sec0).2.1 ≤ gapV (ps.getD j sec0).1 (ps.getD ((j + 1) % k) sec0).1 → GapUpto ps (j + 1) from fun h => HG.out.step (by rw [← HN.out]; exact h))
            have HNO := Lib.hid (show gapV (ps.getD j sec0).1 (ps.getD ((j + 1) % k) sec0).1 < arcV (ps.getD j sec0).1 (ps.getD j sec0).2.1 → ¬ ValidS ps from fun h => no_gap hjl (by have := HN.out; omega) (by rw [← HN.out]; exact h))
            obtain ⟨⟨p0, p1⟩, p2, p3⟩ := okSec_ends hpk
            obtain ⟨⟨q0, q1⟩, _, _⟩ := okSec_ends hqk
            have hgap : gapV (ps.getD j sec0).1 (ps.getD ((j + 1) % k) sec0).1 = ((ps.getD ((j + 1) % k) sec0).1 - (ps.getD j sec0).1 + 360).tmod 360 := by
              unfold gapV; rw [Int.tmod_eq_emod_of_nonneg (by omega)]
            obtain ⟨g, hg⟩ : ∃ g, g = gapV (ps.getD j sec0).1 (ps.getD ((j + 1) % k) sec0).1 := ⟨_, rfl⟩
            obtain ⟨z, hz⟩ : ∃ z, z = arcV (ps.getD j sec0).1 (ps.getD j sec0).2.1 := ⟨_, rfl⟩
            have hg0 : 0 ≤ g ∧ g < 360 := by rw [hg]; unfold gapV; omega
            rw [← hg] at hgap HS HNO
            rw [← hz] at HA HS HNO
            replace hgap := hgap.symm
            clear hz hg hpk hqk hql hjl p2 p3
            generalize (ps.getD j sec0).1 = x at *
            generalize (ps.getD ((j + 1) % k) sec0).1 = y at *
            generalize (j + 1) % k = q at *
            by_cases hlz : z ≤ g
            · have hd : decide (g < z) = false := by simpa using hlz
              go_wp2_with (fail)
              go_quiet ((go_at_call 94; exact HA.out _))
              go_wp2_with (fail)
              go_roundw
              case rel => exact ⟨j + 1, by omega, by go_num, HS.out hlz, HD.out.more _⟩
              case measure => simp [intOf]; omega
            · have hd : g < z := by omega
              have HV := Lib.hid (validS_no (HNO.out hd))
              clear hlz
              go_wp2_with (fail)
              go_quiet ((go_at_call 94; exact HA.out _))
              go_wp2_with (fail)
              go_ret
              exact ⟨retB HV.out.symm, HD.out.more _⟩
          · obtain rfl : j = k := by omega
            have HV := Lib.hid (validS_yes (ps := ps) ⟨by have := HN.out; omega, by rw [← HN.out]; exact HOK.out, fun _ => by rw [← HN.out]; exact HG.out⟩)
            clear hlt
            go_wp2_with (fail)
            go_ret
            exact ⟨retB HV.out.symm, HD.out⟩
      · obtain rfl : k = 1 := by omega
        have HV := Lib.hid (validS_yes (ps := ps) ⟨by have := HN.out; omega, by rw [← HN.out]; exact HOK, fun h => by have := HN.out; omega⟩)
        clear HOK h1
        go_wp2_with (fail)
        go_rounds 1
        go_ret
        exact ⟨retB HV.out.symm, HD.out⟩
theorem sokay_any (v : Value) (ps : List Sec) (w : World) (hm : ps.length ≤ 1048576) (h : SecAre w v ps) :
    Calls Tryz.prog 59 #[v] w (DrewB (validS ps) w) := by
  obtain ⟨a, c, rfl, h⟩ := h
  by_cases hl : ps.length ≤ 12
  · by_cases h0 : ps.length = 0
    · obtain rfl := List.length_eq_zero_iff.1 h0
      have HV := Lib.hid validS_nil
      clear h h0 hl
      go_enter Tryz.func59, Tryz.ntmps59
      go_wp2
      go_rounds 1
      go_rounds 1
      go_ret
      exact ⟨retB HV.out.symm, DrewS.refl w⟩
    · obtain ⟨b, off, rfl, hc⟩ := h.2.resolve_left (by intro e; rw [e] at h0; exact h0 rfl)
      exact sokay_row b off c ps w (by omega) hl hc
  · have HV := Lib.hid (validS_no (no_long (ps := ps) (by omega)))
    have h12 : (12 : Int) < (ps.length : Int) := by omega
    clear h hl
    go_enter Tryz.func59, Tryz.ntmps59
    go_wp2
    go_ret
    exact ⟨retB HV.out.symm, DrewS.refl w⟩
theorem DrewB.below {b : Bool} {w w' : World} {e : Ending} (h : DrewB b w e w') : e = .returned (.bool b) ∧ Below w.heap.size w w' := by
  obtain ⟨rfl, m, rfl⟩ := h
  exact ⟨rfl, below_drewN (Below.refl _ _) m⟩
end Go.Proofs.YtlelcecbpahliaaGreatDoor
