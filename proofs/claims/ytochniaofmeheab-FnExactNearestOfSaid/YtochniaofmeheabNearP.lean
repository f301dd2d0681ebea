/- NearestOf of the program. -/
import Derived.Test.YtochniaofmeheabNearI
namespace Go.Proofs.Ytochniaofmeheab
open Go.ChangeShapes Go.WideShapes Go.ChangeAt Go.RowKit Pm

def nearE (px py : Int) (ps : List (Int × Int)) : Int := if (okB (px, py) && ps.all okB) = true then (if 64 < ps.length then 5 else if ps.length = 0 then 6 else 0) else 1
def NearIs (px py : Int) (ps : List (Int × Int)) (r : Int) : Prop := if nearE px py ps = 0 then Best (nearF px py ps) ps.length r else r = 0
theorem NearIs.one {px py r s : Int} {ps : List (Int × Int)} (h : NearIs px py ps r) (k : NearIs px py ps s) : r = s := by
  unfold NearIs at h k
  by_cases hc : nearE px py ps = 0
  · rw [if_pos hc] at h k; exact h.one k
  · rw [if_neg hc] at h k; rw [h, k]
theorem near_no {px py : Int} {ps : List (Int × Int)} {e : Int} (h : nearE px py ps = e) (he : e ≠ 0) : NearIs px py ps 0 := by unfold NearIs; rw [if_neg (by rw [h]; exact he)]
theorem ret_n {r e e' : Int} (h : e = e') : Ending.returned (.tuple #[.int .i64 r, .int .i64 e]) = .returned (.tuple #[.int .i64 r, .int .i64 e']) := by rw [h]

set_option maxHeartbeats 1000000 in
theorem nearest_any (a : Option Addr) (c : Nat) (px py : Int) (ps : List (Int × Int)) (w : World) (hs : PtsAre w (.slice a ps.length c) ps) :
    Calls Try.prog 8 #[.slice a ps.length c, .agg #[.int .i64 px, .int .i64 py]] w fun e w' => ∃ r, NearIs px py ps r ∧ e = .returned (.tuple #[.int .i64 r, .int .i64 (nearE px py ps)]) ∧ Below w.heap.size w w' := by
  have HS := Lib.hid hs
  have e1 : [(px, py)].all okB = okB (px, py) := by simp
  cases h1 : okB (px, py)
  · have HE := Lib.hid (show nearE px py ps = 1 by unfold nearE; rw [if_neg (by simp [h1])])
    have HN := Lib.hid (near_no HE.out (by decide))
    rw [h1] at e1
    have E1 := Lib.hid e1
    clear e1 h1 hs
    go_enter Try.func8, Try.ntmps8
    go_wp2_with (first
      | (go_at_call 13; refine (arepts_any _ _ _ (pts_one _ _ _ _ (by simp))).mono ?_; rintro e w1 ⟨rfl, hb⟩; rw [E1.out]; have ac := Below.next (a := w) (by go_grown) hb; have az := ac.size; have c0 := cell_below (a := ⟨w.heap.size, 0, none⟩) (v := .slice a ps.length c) (by go_cell) hb; have c1 := cell_below (a := ⟨w.heap.size + 1, 0, none⟩) (v := .int .i64 px) (by go_cell) hb; have c2 := cell_below (a := ⟨w.heap.size + 1, 1, none⟩) (v := .int .i64 py) (by go_cell) hb; clear hb))
    go_ret2
    exact ⟨0, HN.out, ret_n HE.out.symm, by go_grown⟩
  · rw [h1] at e1
    have E1 := Lib.hid e1
    have hp := vd_of h1
    cases h2 : ps.all okB
    · have HE := Lib.hid (show nearE px py ps = 1 by unfold nearE; rw [if_neg (by simp [h2])])
      have HN := Lib.hid (near_no HE.out (by decide))
      have E2 := Lib.hid h2
      clear e1 h1 h2 hs hp
      go_enter Try.func8, Try.ntmps8
      go_wp2_with (first
        | (go_at_call 13; refine (arepts_any _ _ _ (HS.out.below ac)).mono ?_; rintro e w2 ⟨rfl, hb⟩; rw [E2.out]; have ac2 := Below.next (a := w) (by go_grown) hb; have az2 := ac2.size; have c0 := cell_below (a := ⟨w.heap.size, 0, none⟩) (v := .slice a ps.length c) (by go_cell) hb; have c1 := cell_below (a := ⟨w.heap.size + 1, 0, none⟩) (v := .int .i64 px) (by go_cell) hb; have c2 := cell_below (a := ⟨w.heap.size + 1, 1, none⟩) (v := .int .i64 py) (by go_cell) hb; clear hb)
        | (go_at_call 13; refine (arepts_any _ _ _ (pts_one _ _ _ _ (by simp))).mono ?_; rintro e w1 ⟨rfl, hb⟩; rw [E1.out]; have ac := Below.next (a := w) (by go_grown) hb; have az := ac.size; have c0 := cell_below (a := ⟨w.heap.size, 0, none⟩) (v := .slice a ps.length c) (by go_cell) hb; have c1 := cell_below (a := ⟨w.heap.size + 1, 0, none⟩) (v := .int .i64 px) (by go_cell) hb; have c2 := cell_below (a := ⟨w.heap.size + 1, 1, none⟩) (v := .int .i64 py) (by go_cell) hb; clear hb))
      go_ret2
      exact ⟨0, HN.out, ret_n HE.out.symm, by go_grown⟩
    · have E2 := Lib.hid h2
      by_cases h64 : 64 < ps.length
      · have HE := Lib.hid (show nearE px py ps = 5 by unfold nearE; rw [if_pos (by simp [h1, h2]), if_pos h64])
        have HN := Lib.hid (near_no HE.out (by decide))
        have h65 : (64 : Int) < (ps.length : Int) := by omega
        clear e1 h1 h2 hs hp h64
        go_enter Try.func8, Try.ntmps8
        go_wp2_with (first
          | (go_at_call 13; refine (arepts_any _ _ _ (HS.out.below ac)).mono ?_; rintro e w2 ⟨rfl, hb⟩; rw [E2.out]; have ac2 := Below.next (a := w) (by go_grown) hb; have az2 := ac2.size; have c0 := cell_below (a := ⟨w.heap.size, 0, none⟩) (v := .slice a ps.length c) (by go_cell) hb; have c1 := cell_below (a := ⟨w.heap.size + 1, 0, none⟩) (v := .int .i64 px) (by go_cell) hb; have c2 := cell_below (a := ⟨w.heap.size + 1, 1, none⟩) (v := .int .i64 py) (by go_cell) hb; clear hb)
          | (go_at_call 13; refine (arepts_any _ _ _ (pts_one _ _ _ _ (by simp))).mono ?_; rintro e w1 ⟨rfl, hb⟩; rw [E1.out]; have ac := Below.next (a := w) (by go_grown) hb; have az := ac.size; have c0 := cell_below (a := ⟨w.heap.size, 0, none⟩) (v := .slice a ps.length c) (by go_cell) hb; have c1 := cell_below (a := ⟨w.heap.size + 1, 0, none⟩) (v := .int .i64 px) (by go_cell) hb; have c2 := cell_below (a := ⟨w.heap.size + 1, 1, none⟩) (v := .int .i64 py) (by go_cell) hb; clear hb))
        go_ret2
        exact ⟨0, HN.out, ret_n HE.out.symm, by go_grown⟩
      · have h65 : ¬ (64 : Int) < (ps.length : Int) := by omega
        by_cases h0 : ps.length = 0
        · have HE := Lib.hid (show nearE px py ps = 6 by unfold nearE; rw [if_pos (by simp [h1, h2]), if_neg h64, if_pos h0])
          have HN := Lib.hid (near_no HE.out (by decide))
          have hz : ((ps.length : Int) == 0) = true := by simp [h0]
          clear e1 h1 h2 hs hp h64 h0
          go_enter Try.func8, Try.ntmps8
          go_wp2_with (first
            | (go_at_call 13; refine (arepts_any _ _ _ (HS.out.below ac)).mono ?_; rintro e w2 ⟨rfl, hb⟩; rw [E2.out]; have ac2 := Below.next (a := w) (by go_grown) hb; have az2 := ac2.size; have c0 := cell_below (a := ⟨w.heap.size, 0, none⟩) (v := .slice a ps.length c) (by go_cell) hb; have c1 := cell_below (a := ⟨w.heap.size + 1, 0, none⟩) (v := .int .i64 px) (by go_cell) hb; have c2 := cell_below (a := ⟨w.heap.size + 1, 1, none⟩) (v := .int .i64 py) (by go_cell) hb; clear hb)
            | (go_at_call 13; refine (arepts_any _ _ _ (pts_one _ _ _ _ (by simp))).mono ?_; rintro e w1 ⟨rfl, hb⟩; rw [E1.out]; have ac := Below.next (a := w) (by go_grown) hb; have az := ac.size; have c0 := cell_below (a := ⟨w.heap.size, 0, none⟩) (v := .slice a ps.length c) (by go_cell) hb; have c1 := cell_below (a := ⟨w.heap.size + 1, 0, none⟩) (v := .int .i64 px) (by go_cell) hb; have c2 := cell_below (a := ⟨w.heap.size + 1, 1, none⟩) (v := .int .i64 py) (by go_cell) hb; clear hb))
          go_ret2
          exact ⟨0, HN.out, ret_n HE.out.symm, by go_grown⟩
        · have HE := Lib.hid (show nearE px py ps = 0 by unfold nearE; rw [if_pos (by simp [h1, h2]), if_neg h64, if_neg h0])
          have HD := Lib.hid (fun r (h : Best (nearF px py ps) ps.length r) => (show NearIs px py ps r by unfold NearIs; rw [if_pos HE.out]; exact h))
          have hz : ((ps.length : Int) == 0) = false := by rw [beq_eq_false_iff_ne]; omega
          obtain ⟨b, off, hab, hc⟩ : ∃ b off, a = some ⟨b, off, none⟩ ∧ ∀ i, i < ps.length → w.cell? ⟨b, off + i * 2, none⟩ = some (.int .i64 (ps.getD i (0, 0)).1) ∧ w.cell? ⟨b, off + i * 2 + 1, none⟩ = some (.int .i64 (ps.getD i (0, 0)).2) := by
            rcases hs with ⟨hv, hnil⟩ | ⟨b, off, cap, hv, _, hc⟩
            · rw [hnil] at h0; exact absurd rfl h0
            · exact ⟨b, off, by simpa using congrArg (fun v => match v with | Value.slice a _ _ => a | _ => none) hv, hc⟩
          subst hab
          have HF := Lib.hid (fun g h W (hB : Below w.heap.size w W) c0 c1 c2 => first_any g h b off c px py ps W hp h2 (by omega) (by omega) c0 c1 c2 (fun i hi => ⟨cell_below (hc i hi).1 hB, cell_below (hc i hi).2 hB⟩))
          clear e1 h1 h2 hs hp h64 h0 hc
          go_enter Try.func8, Try.ntmps8
          go_wp2_with (first
            | (go_at_call 13; refine (arepts_any _ _ _ (HS.out.below ac)).mono ?_; rintro e w2 ⟨rfl, hb⟩; rw [E2.out]; have ac2 := Below.next (a := w) (by go_grown) hb; have az2 := ac2.size; have c0 := cell_below (a := ⟨w.heap.size, 0, none⟩) (v := .slice (some ⟨b, off, none⟩) ps.length c) (by go_cell) hb; have c1 := cell_below (a := ⟨w.heap.size + 1, 0, none⟩) (v := .int .i64 px) (by go_cell) hb; have c2 := cell_below (a := ⟨w.heap.size + 1, 1, none⟩) (v := .int .i64 py) (by go_cell) hb; clear hb)
            | (go_at_call 13; refine (arepts_any _ _ _ (pts_one _ _ _ _ (by simp))).mono ?_; rintro e w1 ⟨rfl, hb⟩; rw [E1.out]; have ac := Below.next (a := w) (by go_grown) hb; have az := ac.size; have c0 := cell_below (a := ⟨w.heap.size, 0, none⟩) (v := .slice (some ⟨b, off, none⟩) ps.length c) (by go_cell) hb; have c1 := cell_below (a := ⟨w.heap.size + 1, 0, none⟩) (v := .int .i64 px) (by go_cell) hb; have c2 := cell_below (a := ⟨w.heap.size + 1, 1, none⟩) (v := .int .i64 py) (by go_cell) hb; clear hb)
            | (go_at_call 17; refine (HF.out _ _ _ ac2 c1 c2 c0).mono ?_; rintro e w3 ⟨r, hr, rfl, hb⟩; have ac3 := Below.next (a := w) (by go_grown) hb; clear hb))
          go_ret2
          exact ⟨r, HD.out r hr, ret_n HE.out.symm, by go_grown⟩
end Go.Proofs.Ytochniaofmeheab
