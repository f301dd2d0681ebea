/- The sum of the degrees: the model's and the program's. -/
import Derived.Test.YtclbpjjnhfllkaaSecS
import Derived.Test.YtclbpjjnhfllkaaSecI
namespace Go.Proofs.Ytclbpjjnhfllkaa
open Go.ChangeShapes Go.WideShapes Go.ChangeAt Go.RowKit Pm

def sumArc (ps : List Sec) : Int := ps.foldl (fun z p => z + arcS p) 0
theorem sumArc_take (ps : List Sec) (k : Nat) (h : k < ps.length) : sumArc (ps.take (k + 1)) = sumArc (ps.take k) + arcS (ps.getD k sec0) := by
  unfold sumArc
  rw [sec_take ps k h, List.foldl_append]; rfl
noncomputable def litZ (ps : List Sec) : Int := if validS ps then sumArc ps else 0
noncomputable def litZC (ps : List Sec) : Int := if validS ps then 0 else 1
theorem slitrow (b off c : Nat) (ps : List Sec) (w : World) (hv : ValidS ps) (HOK : Hid (∀ w', DrewS w w' → Calls Try.prog 42 #[.slice (some ⟨b, off, none⟩) ps.length c] w' (DrewB true w'))) (hc : ∀ i, i < ps.length → SecAt w b (off + i * 3) (ps.getD i sec0)) :
    Calls Try.prog 28 #[.slice (some ⟨b, off, none⟩) ps.length c] w fun e w' => e = .returned (.tuple #[.int .i64 (sumArc ps), .int .i64 0]) ∧ Below w.heap.size w w' := by
  have HC := Lib.hid hc
  have HV := Lib.hid hv
  have hl := hv.1
  clear hc hv
  go_enter Try.func28, Try.ntmps28
  go_wp2_with (go_at_call 42; refine (HOK.out _ (DrewS.refl w)).mono ?_; rintro e w1 ⟨rfl, m, rfl⟩; refine Hid.out ?_)
  refine Lib.hid ?_
  have HB0 := Lib.hid (below_drewN (Below.refl w.heap.size w) m)
  clear HOK
  go_wp2_with (fail)
  go_loopw [4, 5] (fun z i wr => ∃ (k : Nat) (x : Int), k ≤ ps.length ∧ i = .int .i64 k ∧ z = .int .i64 x ∧ x = sumArc (ps.take k) ∧ 0 ≤ x ∧ x ≤ k * 360 ∧ Below w.heap.size w wr) (fun _ i _ => ps.length - (intOf i).toNat)
  case atStart => exact ⟨0, 0, Nat.zero_le _, rfl, rfl, rfl, by omega, by omega, HB0.out⟩
  case round =>
    obtain ⟨k, x, hk, rfl, rfl, hx, x0, x1, hbel⟩ := hrel
    have HX := Lib.hid hx
    have HB := Lib.hid hbel
    clear hx
    by_cases hlt : k < ps.length
    · have hkn : (k : Int) < (ps.length : Int) := by omega
      have hok := (HV.out.2.1 k hlt).1
      have HA := Lib.hid (sarc_any b (off + k * 3) (ps.getD k sec0) wr ((HC.out k hlt).below hbel) (okSec_endsB hok))
      rw [← okSec_arc hok] at HA
      have HS := Lib.hid (sumArc_take ps k hlt)
      obtain ⟨b0, b1⟩ := arcS_bd (ps.getD k sec0)
      generalize arcS (ps.getD k sec0) = y at *
      clear hbel hok
      go_wp2_with (go_at_call 46; refine HA.out.mono ?_; rintro e w2 ⟨rfl, m2, rfl⟩; have AC := Lib.hid (below_drewN HB.out m2))
      go_roundw
      case rel => exact ⟨k + 1, _, by omega, by go_num, rfl, by rw [HS.out, ← HX.out], by omega, by omega, AC.out⟩
      case measure => simp [intOf]; omega
    · obtain rfl : k = ps.length := by omega
      have HE := Lib.hid (show sumArc ps = x by have := HX.out; rw [List.take_of_length_le (Nat.le_refl _)] at this; exact this.symm)
      clear hbel
      go_wp2
      go_returns
      exact ⟨retII HE.out.symm rfl, HB.out⟩
theorem slitarc_any (v : Value) (ps : List Sec) (w : World) (hm : ps.length ≤ 1048576) (h : SecAre w v ps) :
    Calls Try.prog 28 #[v] w fun e w' => e = .returned (.tuple #[.int .i64 (litZ ps), .int .i64 (litZC ps)]) ∧ Below w.heap.size w w' := by
  have HS := fun w' (hw : DrewS w w') => sokay_any v ps w' hm (by obtain ⟨m, rfl⟩ := hw; exact h.below (below_drewN (Below.refl _ _) m))
  cases hv : validS ps
  · have HK := Lib.hid (HS w (DrewS.refl w))
    rw [hv] at HK
    have H1 := Lib.hid (show litZ ps = 0 by unfold litZ; rw [hv]; rfl)
    have H2 := Lib.hid (show litZC ps = 1 by unfold litZC; rw [hv]; rfl)
    obtain ⟨a, c, rfl, h⟩ := h
    clear h HS
    go_enter Try.func28, Try.ntmps28
    go_wp2_with (go_at_call 42; refine HK.out.mono ?_; rintro e w1 ⟨rfl, m, rfl⟩)
    go_returns
    exact ⟨retII H1.out.symm H2.out.symm, below_drewN (Below.refl _ _) m⟩
  · have H1 := show litZ ps = sumArc ps by unfold litZ; rw [hv]; rfl
    have H2 := show litZC ps = 0 by unfold litZC; rw [hv]; rfl
    rw [hv] at HS
    rw [H1, H2]
    obtain ⟨a, c, rfl, h⟩ := h
    by_cases h0 : ps.length = 0
    · obtain rfl := List.length_eq_zero_iff.1 h0
      have HK := Lib.hid (HS w (DrewS.refl w))
      clear h HS h0 H1 H2 hv
      go_enter Try.func28, Try.ntmps28
      go_wp2_with (go_at_call 42; refine HK.out.mono ?_; rintro e w1 ⟨rfl, m, rfl⟩; refine Hid.out ?_)
      refine Lib.hid ?_
      go_wp2_with (fail)
      go_rounds 1
      go_returns
      exact ⟨rfl, below_drewN (Below.refl _ _) m⟩
    · obtain ⟨b, off, rfl, hc⟩ := h.2.resolve_left (by intro e; rw [e] at h0; exact h0 rfl)
      exact slitrow b off c ps w (validS_iff.1 hv) (Lib.hid HS) hc
theorem litrow (b off c : Nat) (ps : List Sec) (w : World) (hv : ValidS ps) (HOK : Hid (Calls Try.prog 20 #[.slice (some ⟨b, off, none⟩) ps.length c] w fun e w' => e = .returned (.bool true) ∧ Below w.heap.size w w')) (hc : ∀ i, i < ps.length → SecAt w b (off + i * 3) (ps.getD i sec0)) :
    Calls Try.prog 29 #[.slice (some ⟨b, off, none⟩) ps.length c] w fun e w' => e = .returned (.tuple #[.int .i64 (sumArc ps), .int .i64 0]) ∧ Below w.heap.size w w' := by
  have HC := Lib.hid hc
  have hl := hv.1
  clear hc hv
  go_enter Try.func29, Try.ntmps29
  go_wp2_with (go_at_call 20; refine HOK.out.mono ?_; rintro e w1 ⟨rfl, hb⟩; refine Hid.out ?_)
  refine Lib.hid ?_
  have HB0 := Lib.hid hb
  clear HOK hb
  go_wp2_with (fail)
  go_loopw [4, 12] (fun z i wr => ∃ (k : Nat) (x : Int), k ≤ ps.length ∧ i = .int .i64 k ∧ z = .int .i64 x ∧ x = sumArc (ps.take k) ∧ 0 ≤ x ∧ x ≤ k * 360 ∧ Below w.heap.size w wr) (fun _ i _ => ps.length - (intOf i).toNat)
  case atStart => exact ⟨0, 0, Nat.zero_le _, rfl, rfl, rfl, by omega, by omega, HB0.out⟩
  case round =>
    obtain ⟨k, x, hk, rfl, rfl, hx, x0, x1, hbel⟩ := hrel
    have HX := Lib.hid hx
    have HB := Lib.hid hbel
    clear hx
    by_cases hlt : k < ps.length
    · have hkn : (k : Int) < (ps.length : Int) := by omega
      obtain ⟨c0, c1, c2⟩ := (HC.out k hlt).below hbel
      have HA := Lib.hid (fun w => arcof_any (ps.getD k sec0).1 (ps.getD k sec0).2.1 (ps.getD k sec0).2.2 w)
      have HS := Lib.hid (sumArc_take ps k hlt)
      obtain ⟨b0, b1⟩ := arcS_bd (ps.getD k sec0)
      obtain ⟨y, hy⟩ : ∃ y, y = arcS (ps.getD k sec0) := ⟨_, rfl⟩
      rw [← hy] at HS b0 b1
      rw [show arcS ((ps.getD k sec0).1, (ps.getD k sec0).2.1, (ps.getD k sec0).2.2) = y from hy.symm] at HA
      generalize (ps.getD k sec0).1 = f at *
      generalize (ps.getD k sec0).2.1 = t at *
      generalize (ps.getD k sec0).2.2 = s at *
      have HB1 := Lib.hid (show Below w.heap.size w (wr.alloc (.cells #[.int .i64 f, .int .i64 t, .string s] 26)) from hbel.alloc hbel.size _)
      clear hbel hy
      go_wp2_with (go_at_call 25; refine (HA.out _).mono ?_; rintro e w2 ⟨rfl, hb⟩; have AC := Lib.hid (Below.next HB1.out hb); clear hb)
      go_roundw
      case rel => exact ⟨k + 1, _, by omega, by go_num, rfl, by rw [HS.out, ← HX.out], by omega, by omega, AC.out⟩
      case measure => simp [intOf]; omega
    · obtain rfl : k = ps.length := by omega
      have HE := Lib.hid (show sumArc ps = x by have := HX.out; rw [List.take_of_length_le (Nat.le_refl _)] at this; exact this.symm)
      clear hbel
      go_wp2
      go_returns
      exact ⟨retII HE.out.symm rfl, HB.out⟩
theorem litarc_any (v : Value) (ps : List Sec) (w : World) (h : SecAre w v ps) :
    Calls Try.prog 29 #[v] w fun e w' => e = .returned (.tuple #[.int .i64 (litZ ps), .int .i64 (litZC ps)]) ∧ Below w.heap.size w w' := by
  have HS := okay_any v ps w h
  cases hv : validS ps
  · rw [hv] at HS
    have HK := Lib.hid HS
    have H1 := Lib.hid (show litZ ps = 0 by unfold litZ; rw [hv]; rfl)
    have H2 := Lib.hid (show litZC ps = 1 by unfold litZC; rw [hv]; rfl)
    obtain ⟨a, c, rfl, h⟩ := h
    clear h HS
    go_enter Try.func29, Try.ntmps29
    go_wp2_with (go_at_call 20; refine HK.out.mono ?_; rintro e w1 ⟨rfl, hb⟩)
    go_returns
    exact ⟨retII H1.out.symm H2.out.symm, hb⟩
  · have H1 := show litZ ps = sumArc ps by unfold litZ; rw [hv]; rfl
    have H2 := show litZC ps = 0 by unfold litZC; rw [hv]; rfl
    rw [hv] at HS
    rw [H1, H2]
    obtain ⟨a, c, rfl, h⟩ := h
    by_cases h0 : ps.length = 0
    · obtain rfl := List.length_eq_zero_iff.1 h0
      have HK := Lib.hid HS
      clear h HS h0 H1 H2 hv
      go_enter Try.func29, Try.ntmps29
      go_wp2_with (go_at_call 20; refine HK.out.mono ?_; rintro e w1 ⟨rfl, hb⟩; refine Hid.out ?_)
      refine Lib.hid ?_
      go_wp2_with (fail)
      go_rounds 1
      go_returns
      exact ⟨rfl, hb⟩
    · obtain ⟨b, off, rfl, hc⟩ := h.2.resolve_left (by intro e; rw [e] at h0; exact h0 rfl)
      exact litrow b off c ps w (validS_iff.1 hv) (Lib.hid HS) hc
end Go.Proofs.Ytclbpjjnhfllkaa
