/- NearestOf of the model. -/
import Derived.Test.YtochniaofmeheabNearP
import Derived.Test.YtochniaofmeheabNearA
import Derived.Test.YtochniaofmeheabReg
import Derived.Deep.RegionHeld3
namespace Go.Proofs.Ytochniaofmeheab
open Go.ChangeShapes Go.WideShapes Go.ChangeAt Go.RowKit Pm

theorem keepPB {w0 w : World} {a0 a1 a2 a3 a4 a5 : Addr} {v0 v1 v2 v3 v4 v5 : Value} (h : w.cell? a0 = some v0 ∧ w.cell? a1 = some v1 ∧ w.cell? a2 = some v2 ∧ w.cell? a3 = some v3 ∧ w.cell? a4 = some v4 ∧ w.cell? a5 = some v5 ∧ Below w0.heap.size w0 w) : w.cell? a0 = some v0 ∧ w.cell? a1 = some v1 ∧ Below w0.heap.size w0 w := ⟨h.1, h.2.1, h.2.2.2.2.2.2⟩

set_option maxHeartbeats 2000000 in
theorem snearest_any (a : Option Addr) (c : Nat) (px py : Int) (ps : List (Int × Int)) (w : World) (hs : PtsAre w (.slice a ps.length c) ps) :
    Calls Try.prog 5 #[.slice a ps.length c, .agg #[.int .i64 px, .int .i64 py]] w fun e w' => ∃ r, NearIs px py ps r ∧ e = .returned (.tuple #[.int .i64 r, .int .i64 (nearE px py ps)]) ∧ Below w.heap.size w w' := by
  have HS := Lib.hid hs
  cases h1 : inB 0 200000 [px, py]
  · have HE := Lib.hid (show nearE px py ps = 1 by unfold nearE okB; rw [if_neg (by simp [h1])])
    have HN := Lib.hid (near_no HE.out (by decide))
    clear hs
    go_enter Try.func5, Try.ntmps5
    go_wp2_with (first
      | (go_at_call 10; refine (sok_any _ _ _).mono ?_; rintro e w1 ⟨rfl, hb⟩; have ac := Below.next (a := w) (by go_grown) hb; have c0 := cell_below (a := ⟨w.heap.size, 0, none⟩) (v := .int .i64 px) (by go_cell) hb; have c1 := cell_below (a := ⟨w.heap.size, 1, none⟩) (v := .int .i64 py) (by go_cell) hb; clear hb))
    go_ret2
    exact ⟨0, HN.out, ret_n HE.out.symm, by go_grown⟩
  · have hp := vd_of h1
    have h1' : okB (px, py) = true := h1
    cases h2 : ps.all okB
    · have HE := Lib.hid (show nearE px py ps = 1 by unfold nearE; rw [if_neg (by simp [h2])])
      have HN := Lib.hid (near_no HE.out (by decide))
      have E2 := Lib.hid h2
      clear h2 hs hp h1'
      go_enter Try.func5, Try.ntmps5
      go_wp2_with (first
        | (go_at_call 11; refine (sall_any _ _ _ (HS.out.below ac)).mono ?_; rintro e w2 ⟨rfl, hb⟩; rw [E2.out]; have ac2 := Below.next (a := w) (by go_grown) hb; have d0 := cell_below (a := ⟨w.heap.size, 0, none⟩) (v := .int .i64 px) (by go_cell) hb; have d1 := cell_below (a := ⟨w.heap.size, 1, none⟩) (v := .int .i64 py) (by go_cell) hb; clear hb)
        | (go_at_call 10; refine (sok_any _ _ _).mono ?_; rintro e w1 ⟨rfl, hb⟩; have ac := Below.next (a := w) (by go_grown) hb; have c0 := cell_below (a := ⟨w.heap.size, 0, none⟩) (v := .int .i64 px) (by go_cell) hb; have c1 := cell_below (a := ⟨w.heap.size, 1, none⟩) (v := .int .i64 py) (by go_cell) hb; clear hb))
      go_ret2
      exact ⟨0, HN.out, ret_n HE.out.symm, by go_grown⟩
    · have E2 := Lib.hid h2
      by_cases h64 : 64 < ps.length
      · have HE := Lib.hid (show nearE px py ps = 5 by unfold nearE; rw [if_pos (by simp [h1', h2]), if_pos h64])
        have HN := Lib.hid (near_no HE.out (by decide))
        have h65 : (64 : Int) < (ps.length : Int) := by omega
        clear h2 hs hp h64 h1'
        go_enter Try.func5, Try.ntmps5
        go_wp2_with (first
          | (go_at_call 11; refine (sall_any _ _ _ (HS.out.below ac)).mono ?_; rintro e w2 ⟨rfl, hb⟩; rw [E2.out]; have ac2 := Below.next (a := w) (by go_grown) hb; have d0 := cell_below (a := ⟨w.heap.size, 0, none⟩) (v := .int .i64 px) (by go_cell) hb; have d1 := cell_below (a := ⟨w.heap.size, 1, none⟩) (v := .int .i64 py) (by go_cell) hb; clear hb)
          | (go_at_call 10; refine (sok_any _ _ _).mono ?_; rintro e w1 ⟨rfl, hb⟩; have ac := Below.next (a := w) (by go_grown) hb; have c0 := cell_below (a := ⟨w.heap.size, 0, none⟩) (v := .int .i64 px) (by go_cell) hb; have c1 := cell_below (a := ⟨w.heap.size, 1, none⟩) (v := .int .i64 py) (by go_cell) hb; clear hb))
        go_ret2
        exact ⟨0, HN.out, ret_n HE.out.symm, by go_grown⟩
      · have h65 : ¬ (64 : Int) < (ps.length : Int) := by omega
        by_cases h0 : ps.length = 0
        · have HE := Lib.hid (show nearE px py ps = 6 by unfold nearE; rw [if_pos (by simp [h1', h2]), if_neg h64, if_pos h0])
          have HN := Lib.hid (near_no HE.out (by decide))
          have hz : ((ps.length : Int) == 0) = true := by simp [h0]
          clear h2 hs hp h64 h0 h1'
          go_enter Try.func5, Try.ntmps5
          go_wp2_with (first
            | (go_at_call 11; refine (sall_any _ _ _ (HS.out.below ac)).mono ?_; rintro e w2 ⟨rfl, hb⟩; rw [E2.out]; have ac2 := Below.next (a := w) (by go_grown) hb; have d0 := cell_below (a := ⟨w.heap.size, 0, none⟩) (v := .int .i64 px) (by go_cell) hb; have d1 := cell_below (a := ⟨w.heap.size, 1, none⟩) (v := .int .i64 py) (by go_cell) hb; clear hb)
            | (go_at_call 10; refine (sok_any _ _ _).mono ?_; rintro e w1 ⟨rfl, hb⟩; have ac := Below.next (a := w) (by go_grown) hb; have c0 := cell_below (a := ⟨w.heap.size, 0, none⟩) (v := .int .i64 px) (by go_cell) hb; have c1 := cell_below (a := ⟨w.heap.size, 1, none⟩) (v := .int .i64 py) (by go_cell) hb; clear hb))
          go_ret2
          exact ⟨0, HN.out, ret_n HE.out.symm, by go_grown⟩
        · have HE := Lib.hid (show nearE px py ps = 0 by unfold nearE; rw [if_pos (by simp [h1', h2]), if_neg h64, if_neg h0])
          have HD := Lib.hid (fun r (h : Best (nearF px py ps) ps.length r) => (show NearIs px py ps r by unfold NearIs; rw [if_pos HE.out]; exact h))
          have hz : ((ps.length : Int) == 0) = false := by rw [beq_eq_false_iff_ne]; omega
          obtain ⟨b, off, hab, hc⟩ : ∃ b off, a = some ⟨b, off, none⟩ ∧ ∀ i, i < ps.length → w.cell? ⟨b, off + i * 2, none⟩ = some (.int .i64 (ps.getD i (0, 0)).1) ∧ w.cell? ⟨b, off + i * 2 + 1, none⟩ = some (.int .i64 (ps.getD i (0, 0)).2) := by
            rcases hs with ⟨hv, hnil⟩ | ⟨b, off, cap, hv, _, hc⟩
            · rw [hnil] at h0; exact absurd rfl h0
            · exact ⟨b, off, by simpa using congrArg (fun v => match v with | Value.slice a _ _ => a | _ => none) hv, hc⟩
          subst hab
          have VP := Lib.hid hp
          have HV := Lib.hid (fun k hk => vd_at h2 k hk)
          have HC := Lib.hid hc
          have B1 := Lib.hid (best_one (nearF px py ps))
          have hn0 : 1 ≤ ps.length := by omega
          have hn1 : ps.length ≤ 64 := by omega
          clear h2 hs hp h64 h0 h1' hc
          go_enter Try.func5, Try.ntmps5
          go_wp2_with (first
            | (go_at_call 11; refine (sall_any _ _ _ (HS.out.below ac)).mono ?_; rintro e w2 ⟨rfl, hb⟩; rw [E2.out]; have ac2 := Below.next (a := w) (by go_grown) hb; have d0 := cell_below (a := ⟨w.heap.size, 0, none⟩) (v := .int .i64 px) (by go_cell) hb; have d1 := cell_below (a := ⟨w.heap.size, 1, none⟩) (v := .int .i64 py) (by go_cell) hb; clear hb)
            | (go_at_call 10; refine (sok_any _ _ _).mono ?_; rintro e w1 ⟨rfl, hb⟩; have ac := Below.next (a := w) (by go_grown) hb; have c0 := cell_below (a := ⟨w.heap.size, 0, none⟩) (v := .int .i64 px) (by go_cell) hb; have c1 := cell_below (a := ⟨w.heap.size, 1, none⟩) (v := .int .i64 py) (by go_cell) hb; clear hb))
          have ac3 := Lib.hid ac2
          have D := Lib.hid (And.intro d0 (And.intro d1 ac2))
          clear ac2 d0 d1 ac
          go_loopw [6, 7] (fun bs i wr => ∃ (k r : Nat), k ≤ ps.length ∧ r < k ∧ i = .int .i64 k ∧ bs = .int .i64 r ∧ Best (nearF px py ps) k r ∧ (wr.cell? ⟨w.heap.size, 0, none⟩ = some (.int .i64 px) ∧ wr.cell? ⟨w.heap.size, 1, none⟩ = some (.int .i64 py) ∧ Below w.heap.size w wr)) (fun _ i _ => ps.length - (intOf i).toNat)
          case atStart => exact ⟨1, 0, hn0, by omega, rfl, rfl, B1.out, D.out⟩
          case round =>
            obtain ⟨k, r, hk, hrk, rfl, rfl, hB, hd0, hd1, hbel⟩ := hrel
            have HB := Lib.hid hB
            have HBE := Lib.hid hbel
            clear hB D ac3
            by_cases hlt : k < ps.length
            · have hlt2 : (k : Int) < (ps.length : Int) := by omega
              have hlt3 : (r : Int) < (ps.length : Int) := by omega
              have e0 := cell_below (HC.out k hlt).1 hbel
              have e1 := cell_below (HC.out k hlt).2 hbel
              have e2 := cell_below (HC.out r (by omega)).1 hbel
              have e3 := cell_below (HC.out r (by omega)).2 hbel
              have VK := Lib.hid (HV.out k hlt)
              have VR := Lib.hid (HV.out r (by omega))
              have hfk : nearF px py ps k = -(sqd (ps.getD k (0, 0)).1 (ps.getD k (0, 0)).2 px py) := by rw [sqd_comm]; rfl
              have hfr : nearF px py ps r = -(sqd (ps.getD r (0, 0)).1 (ps.getD r (0, 0)).2 px py) := by rw [sqd_comm]; rfl
              generalize (ps.getD k (0, 0)).1 = xk at *
              generalize (ps.getD k (0, 0)).2 = yk at *
              generalize (ps.getD r (0, 0)).1 = xr at *
              generalize (ps.getD r (0, 0)).2 = yr at *
              by_cases hg : sqd xk yk px py < sqd xr yr px py
              · have HN := Lib.hid (best_up (by omega) HB.out (by rw [hfk, hfr]; omega))
                clear hfk hfr
                go_wp2_with (fail)
                go_region_held3 (fun w' => w'.cell? ⟨w.heap.size, 0, none⟩ = some (.int .i64 px) ∧ w'.cell? ⟨w.heap.size, 1, none⟩ = some (.int .i64 py) ∧ w'.cell? ⟨b, off + k * 2, none⟩ = some (.int .i64 xk) ∧ w'.cell? ⟨b, off + k * 2 + 1, none⟩ = some (.int .i64 yk) ∧ w'.cell? ⟨b, off + r * 2, none⟩ = some (.int .i64 xr) ∧ w'.cell? ⟨b, off + r * 2 + 1, none⟩ = some (.int .i64 yr) ∧ Below w.heap.size w w')
                  (first | assumption | exact keep6 (by assumption) (by assumption) | exact drew6 (by assumption) | exact keepA6 (by assumption) | exact drew6 (keepA6 (by assumption)) | ((refine keepP6 ?_ ?_ ?_ ?_ ?_ ?_ ?_ (by assumption)) <;> (first | omega | (simp; done) | (simp; omega))) | ((refine keepX6 ?_ ?_ ?_ ?_ ?_ ?_ ?_ (by assumption)) <;> (first | omega | (simp; done) | (simp; omega))) | ((refine drew6 (keepX6 ?_ ?_ ?_ ?_ ?_ ?_ ?_ (by assumption))) <;> (first | omega | (simp; done) | (simp; omega))) | (refine ⟨?_, ?_, ?_, ?_, ?_, ?_, ?_⟩ <;> (first | (go_cell; done) | (go_grown; done))))
                  (first
                    | (go_at_call 12; refine (ssquare_any _ _ _ _ _ (by first | exact VK.out | exact VR.out) VP.out).mono ?_; rintro e w3 ⟨rfl, hb⟩))
                all_goals
                  go_wp2
                  go_roundw
                  case rel => exact ⟨k + 1, k, by omega, by omega, by go_num, rfl, HN.out, keepPB (by assumption)⟩
                  case measure => simp [intOf]; omega
              · have HN := Lib.hid (best_stay HB.out (by rw [hfk, hfr]; omega))
                clear hfk hfr
                go_wp2_with (fail)
                go_region_held3 (fun w' => w'.cell? ⟨w.heap.size, 0, none⟩ = some (.int .i64 px) ∧ w'.cell? ⟨w.heap.size, 1, none⟩ = some (.int .i64 py) ∧ w'.cell? ⟨b, off + k * 2, none⟩ = some (.int .i64 xk) ∧ w'.cell? ⟨b, off + k * 2 + 1, none⟩ = some (.int .i64 yk) ∧ w'.cell? ⟨b, off + r * 2, none⟩ = some (.int .i64 xr) ∧ w'.cell? ⟨b, off + r * 2 + 1, none⟩ = some (.int .i64 yr) ∧ Below w.heap.size w w')
                  (first | assumption | exact keep6 (by assumption) (by assumption) | exact drew6 (by assumption) | exact keepA6 (by assumption) | exact drew6 (keepA6 (by assumption)) | ((refine keepP6 ?_ ?_ ?_ ?_ ?_ ?_ ?_ (by assumption)) <;> (first | omega | (simp; done) | (simp; omega))) | ((refine keepX6 ?_ ?_ ?_ ?_ ?_ ?_ ?_ (by assumption)) <;> (first | omega | (simp; done) | (simp; omega))) | ((refine drew6 (keepX6 ?_ ?_ ?_ ?_ ?_ ?_ ?_ (by assumption))) <;> (first | omega | (simp; done) | (simp; omega))) | (refine ⟨?_, ?_, ?_, ?_, ?_, ?_, ?_⟩ <;> (first | (go_cell; done) | (go_grown; done))))
                  (first
                    | (go_at_call 12; refine (ssquare_any _ _ _ _ _ (by first | exact VK.out | exact VR.out) VP.out).mono ?_; rintro e w3 ⟨rfl, hb⟩))
                all_goals
                  go_wp2
                  go_roundw
                  case rel => exact ⟨k + 1, r, by omega, by omega, by go_num, rfl, HN.out, keepPB (by assumption)⟩
                  case measure => simp [intOf]; omega
            · have hge : ¬ (k : Int) < (ps.length : Int) := by omega
              clear hbel
              go_wp2
              go_ret2
              exact ⟨r, HD.out r (by rw [show ps.length = k by omega]; exact HB.out), ret_n HE.out.symm, HBE.out⟩
end Go.Proofs.Ytochniaofmeheab
