/- The text of sectors: the model's. -/
import Derived.Test.YtclbpjjnhfllkaaDoorSxtM
import Derived.Deep.RegionHeld3
namespace Go.Proofs.YtclbpjjnhfllkaaDoor
open Go.ChangeShapes Go.WideShapes Go.ChangeAt Go.RowKit Pm

theorem keepS3 {w0 w w1 : World} {a0 a1 a2 : Addr} {v0 v1 v2 : Value} (hb : Below w.heap.size w w1) (h : w.cell? a0 = some v0 ∧ w.cell? a1 = some v1 ∧ w.cell? a2 = some v2 ∧ Below w0.heap.size w0 w) : w1.cell? a0 = some v0 ∧ w1.cell? a1 = some v1 ∧ w1.cell? a2 = some v2 ∧ Below w0.heap.size w0 w1 :=
  ⟨cell_below h.1 hb, cell_below h.2.1 hb, cell_below h.2.2.1 hb, Below.next h.2.2.2 hb⟩
theorem drewS3 {w0 w : World} {a0 a1 a2 : Addr} {v0 v1 v2 : Value} (h : w.cell? a0 = some v0 ∧ w.cell? a1 = some v1 ∧ w.cell? a2 = some v2 ∧ Below w0.heap.size w0 w) : w.drew.cell? a0 = some v0 ∧ w.drew.cell? a1 = some v1 ∧ w.drew.cell? a2 = some v2 ∧ Below w0.heap.size w0 w.drew :=
  ⟨h.1, h.2.1, h.2.2.1, h.2.2.2.drew⟩
theorem keepBS3 {w0 w : World} {a0 a1 a2 : Addr} {v0 v1 v2 : Value} (h : w.cell? a0 = some v0 ∧ w.cell? a1 = some v1 ∧ w.cell? a2 = some v2 ∧ Below w0.heap.size w0 w) : Below w0.heap.size w0 w := h.2.2.2
set_option maxHeartbeats 1000000 in
theorem sxtrow (b off c : Nat) (ps : List Sec) (w : World) (h0 : 0 < ps.length) (hv : ValidS ps) (hc : ∀ i, i < ps.length → SecAt w b (off + i * 3) (ps.getD i sec0)) :
    Calls Tryd.prog 19 #[.slice (some ⟨b, off, none⟩) ps.length c] w fun e w' => e = .returned (.string ⟨(sxtJ ps).toArray⟩) ∧ Below w.heap.size w w' := by
  have HC := Lib.hid hc
  have HV := Lib.hid hv
  have h12 := hv.1
  have hne : ((ps.length : Int) == 0) = false := by rw [beq_eq_false_iff_ne]; omega
  clear hc hv
  go_enter Tryd.func19, Tryd.ntmps19
  go_wp2_with (fail)
  go_loopw [3, 4] (fun o i wr => ∃ (k : Nat) (s : ByteArray), k ≤ ps.length ∧ i = .int .i64 k ∧ o = .string s ∧ s = ⟨(sxtJ (ps.take k)).toArray⟩ ∧ s.size ≤ 45 * k ∧ Below w.heap.size w wr) (fun _ i _ => ps.length - (intOf i).toNat)
  case atStart => exact ⟨0, ⟨#[]⟩, Nat.zero_le _, rfl, rfl, rfl, Nat.le_refl _, Below.refl _ _⟩
  case round =>
    obtain ⟨k, s, hk, rfl, rfl, hs, hz, hbel⟩ := hrel
    have HS := Lib.hid hs
    have HB := Lib.hid hbel
    clear hs
    by_cases hlt : k < ps.length
    · have hkn : (k : Int) < (ps.length : Int) := by omega
      obtain ⟨c0, c1, c2⟩ := (HC.out k hlt).below hbel
      have hok := (HV.out.2.1 k hlt).1
      obtain ⟨⟨f0, f1⟩, t0, t1⟩ := okSec_ends hok
      have hcs := cols_size (okSec_col hok)
      have HTK := Lib.hid (sec_take ps k hlt)
      generalize ps.getD k sec0 = p at *
      obtain ⟨f, t, x⟩ := p
      simp only at c0 c1 c2 f0 f1 t0 t1 hcs
      have HD := Lib.hid (fun w => show Calls Tryd.prog 27 #[.int .i64 f] w fun e w' => e = .returned (.string (itoaS f)) ∧ Below w.heap.size w w' from sdec_any f w (by omega) (by omega))
      have HE := Lib.hid (fun w => show Calls Tryd.prog 27 #[.int .i64 t] w fun e w' => e = .returned (.string (itoaS t)) ∧ Below w.heap.size w w' from sdec_any t w (by omega) (by omega))
      have z1 := itoa_size f0 f1
      have z2 := itoa_size t0 t1
      have HPS := Lib.hid (show secS (f, t, x) = itoaS f ++ ⟨#[45]⟩ ++ itoaS t ++ x from rfl)
      obtain ⟨u, hu⟩ : ∃ u, u = itoaS f := ⟨_, rfl⟩
      obtain ⟨v, hvv⟩ : ∃ v, v = itoaS t := ⟨_, rfl⟩
      rw [← hu] at HD z1 HPS
      rw [← hvv] at HE z2 HPS
      clear hu hvv hok
      have m1 : (⟨#[44]⟩ : ByteArray).size = 1 := rfl
      have m2 : (⟨#[45]⟩ : ByteArray).size = 1 := rfl
      have q1 := fun w => run_string_add_sum (P := Tryd.prog) (w := w) u ⟨#[45]⟩ (by omega)
      have q2 := fun w => run_string_add_sum (P := Tryd.prog) (w := w) (u ++ ⟨#[45]⟩) v (by simp only [ByteArray.size_append]; omega)
      have q3 := fun w => run_string_add_sum (P := Tryd.prog) (w := w) (u ++ ⟨#[45]⟩ ++ v) x (by simp only [ByteArray.size_append]; omega)
      by_cases hk0 : k = 0
      · have hki : ¬ 0 < k := by omega
        have HK0 := Lib.hid hk0
        clear hk0
        have q4 := fun w => run_string_add_sum (P := Tryd.prog) (w := w) s (u ++ ⟨#[45]⟩ ++ v ++ x) (by simp only [ByteArray.size_append]; omega)
        have HF := Lib.hid (show s ++ (u ++ ⟨#[45]⟩ ++ v ++ x) = ⟨(sxtJ (ps.take (k + 1))).toArray⟩ from WideShapes.bytes_inj (by
          rw [HTK.out, show ps.take k = [] by rw [HK0.out]; rfl, List.nil_append, sxtJ_one]
          unfold sxtT
          rw [HPS.out, HS.out, HK0.out]
          simp [ByteArray.data_append, sxtJ, Lib.join_nil]))
        go_wp2_with (fail)
        go_region_held3 (fun w' => w'.cell? ⟨b, off + k * 3, none⟩ = some (.int .i64 f) ∧ w'.cell? ⟨b, off + k * 3 + 1, none⟩ = some (.int .i64 t) ∧ w'.cell? ⟨b, off + k * 3 + 2, none⟩ = some (.string x) ∧ Below w.heap.size w w')
          (first | assumption | exact keepS3 (by assumption) (by assumption) | exact drewS3 (by assumption) | exact ⟨c0, c1, c2, HB.out⟩ | exact ⟨c0, c1, c2, HB.out.drew⟩)
          (first
            | (go_at_call 27; (first | (with_reducible refine (HD.out _).mono ?_) | (with_reducible refine (HE.out _).mono ?_)); rintro e w1 ⟨rfl, hb⟩))
        all_goals
          go_wp2
          go_roundw
          case rel => exact ⟨k + 1, _, by omega, by go_num, rfl, HF.out, by simp only [ByteArray.size_append]; omega, keepBS3 (by assumption)⟩
          case measure => simp [intOf]; omega
      · have hki : (0 : Int) < k := by omega
        have q5 := fun w => run_string_add_sum (P := Tryd.prog) (w := w) s ⟨#[44]⟩ (by omega)
        have q4 := fun w => run_string_add_sum (P := Tryd.prog) (w := w) (s ++ ⟨#[44]⟩) (u ++ ⟨#[45]⟩ ++ v ++ x) (by simp only [ByteArray.size_append]; omega)
        have HF := Lib.hid (show s ++ ⟨#[44]⟩ ++ (u ++ ⟨#[45]⟩ ++ v ++ x) = ⟨(sxtJ (ps.take (k + 1))).toArray⟩ from WideShapes.bytes_inj (by
          rw [HTK.out, sxtJ_snoc _ _ (by intro e; have h9 := congrArg List.length e; rw [List.length_take, List.length_nil] at h9; omega)]
          unfold sxtT
          rw [HPS.out, HS.out]
          simp [ByteArray.data_append]))
        go_wp2_with (fail)
        go_region_held3 (fun w' => w'.cell? ⟨b, off + k * 3, none⟩ = some (.int .i64 f) ∧ w'.cell? ⟨b, off + k * 3 + 1, none⟩ = some (.int .i64 t) ∧ w'.cell? ⟨b, off + k * 3 + 2, none⟩ = some (.string x) ∧ Below w.heap.size w w')
          (first | assumption | exact keepS3 (by assumption) (by assumption) | exact drewS3 (by assumption) | exact ⟨c0, c1, c2, HB.out⟩ | exact ⟨c0, c1, c2, HB.out.drew⟩)
          (first
            | (go_at_call 27; (first | (with_reducible refine (HD.out _).mono ?_) | (with_reducible refine (HE.out _).mono ?_)); rintro e w1 ⟨rfl, hb⟩))
        all_goals
          go_wp2
          go_roundw
          case rel => exact ⟨k + 1, _, by omega, by go_num, rfl, HF.out, by simp only [ByteArray.size_append]; omega, keepBS3 (by assumption)⟩
          case measure => simp [intOf]; omega
    · have HF := Lib.hid (show s = ⟨(sxtJ ps).toArray⟩ by rw [HS.out, List.take_of_length_le (by omega)])
      clear hbel
      go_wp2
      go_ret
      exact ⟨retS HF.out, HB.out⟩
theorem sxt_any (v : Value) (ps : List Sec) (w : World) (hv : ValidS ps) (h : SecAre w v ps) :
    Calls Tryd.prog 19 #[v] w fun e w' => e = .returned (.string (sxtA ps)) ∧ Below w.heap.size w w' := by
  obtain ⟨a, c, rfl, h⟩ := h
  by_cases h0 : ps.length = 0
  · have HT := Lib.hid (show sxtA ps = ⟨#[45]⟩ by unfold sxtA; rw [if_pos h0])
    have hz : ((ps.length : Int) == 0) = true := by rw [h0]; rfl
    clear h hv h0
    go_enter Tryd.func19, Tryd.ntmps19
    go_wp2
    go_ret
    exact ⟨retS HT.out.symm, Below.refl _ _⟩
  · obtain ⟨b, off, rfl, hc⟩ := h.2.resolve_left (by intro e; rw [e] at h0; exact h0 rfl)
    rw [show sxtA ps = ⟨(sxtJ ps).toArray⟩ by unfold sxtA; rw [if_neg h0]]
    exact sxtrow b off c ps w (by omega) hv hc
theorem ssecstext_any (v : Value) (ps : List Sec) (w : World) (hm : ps.length ≤ 1048576) (h : SecAre w v ps) :
    Calls Tryd.prog 10 #[v] w fun e w' => e = .returned (.string (secText ps)) ∧ Below w.heap.size w w' := by
  have HV := Lib.hid (sokay_any v ps w hm h)
  cases hb : validS ps
  · have HT := Lib.hid (show secText ps = ⟨#[]⟩ by unfold secText; rw [hb]; rfl)
    rw [hb] at HV
    clear hb h
    go_enter Tryd.func10, Tryd.ntmps10
    go_wp2_with (go_at_call 13; refine HV.out.mono ?_; rintro e w1 ⟨rfl, m, rfl⟩)
    go_ret
    exact ⟨retS HT.out.symm, below_drewN (Below.refl _ _) m⟩
  · have HS := Lib.hid (fun w' (hb2 : Below w.heap.size w w') => sxt_any v ps w' (validS_iff.1 hb) (h.below hb2))
    have HT := Lib.hid (show secText ps = sxtA ps by unfold secText; rw [hb]; rfl)
    obtain ⟨t, ht⟩ : ∃ t, t = sxtA ps := ⟨_, rfl⟩
    rw [hb] at HV
    rw [← ht] at HS HT
    clear hb h ht
    go_enter Tryd.func10, Tryd.ntmps10
    go_wp2_with (go_at_call 13; refine HV.out.mono ?_; rintro e w1 ⟨rfl, m, rfl⟩; refine Hid.out ?_)
    refine Lib.hid ?_
    have HB := Lib.hid (below_drewN (Below.refl w.heap.size w) m)
    go_wp2_with (go_at_call 19; refine (HS.out _ HB.out).mono ?_; rintro e w1 ⟨rfl, hb⟩; have AC := Lib.hid (Below.next HB.out hb); clear hb)
    go_ret
    exact ⟨retS HT.out.symm, AC.out⟩
end Go.Proofs.YtclbpjjnhfllkaaDoor
