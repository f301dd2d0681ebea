/- The closure of NearestOf. The program's NearestOf. NearestOf of the program. -/
import Derived.Test.YthggoboljkdldabGreatDoorSq
import Derived.Deep.RegionHeld3
import Derived.LoopTactic
namespace Go.Proofs.YthggoboljkdldabGreatDoor
open Go.ChangeShapes Go.WideShapes Go.ChangeAt Go.RowKit Pm

theorem keep5 {w0 w w1 : World} {a0 a1 a2 a3 a4 : Addr} {v0 v1 v2 v3 v4 : Value} (hb : Below w.heap.size w w1) (h : w.cell? a0 = some v0 ∧ w.cell? a1 = some v1 ∧ w.cell? a2 = some v2 ∧ w.cell? a3 = some v3 ∧ w.cell? a4 = some v4 ∧ Below w0.heap.size w0 w) : w1.cell? a0 = some v0 ∧ w1.cell? a1 = some v1 ∧ w1.cell? a2 = some v2 ∧ w1.cell? a3 = some v3 ∧ w1.cell? a4 = some v4 ∧ Below w0.heap.size w0 w1 := by
  obtain ⟨h0, h1, h2, h3, h4, hB⟩ := h
  exact ⟨cell_below h0 hb, cell_below h1 hb, cell_below h2 hb, cell_below h3 hb, cell_below h4 hb, Below.next hB hb⟩
theorem drew5 {w0 w : World} {a0 a1 a2 a3 a4 : Addr} {v0 v1 v2 v3 v4 : Value} (h : w.cell? a0 = some v0 ∧ w.cell? a1 = some v1 ∧ w.cell? a2 = some v2 ∧ w.cell? a3 = some v3 ∧ w.cell? a4 = some v4 ∧ Below w0.heap.size w0 w) : w.drew.cell? a0 = some v0 ∧ w.drew.cell? a1 = some v1 ∧ w.drew.cell? a2 = some v2 ∧ w.drew.cell? a3 = some v3 ∧ w.drew.cell? a4 = some v4 ∧ Below w0.heap.size w0 w.drew := by
  obtain ⟨h0, h1, h2, h3, h4, hB⟩ := h
  exact ⟨h0, h1, h2, h3, h4, hB.drew⟩
theorem keepB5 {w0 w : World} {a0 a1 a2 a3 a4 : Addr} {v0 v1 v2 v3 v4 : Value} (h : w.cell? a0 = some v0 ∧ w.cell? a1 = some v1 ∧ w.cell? a2 = some v2 ∧ w.cell? a3 = some v3 ∧ w.cell? a4 = some v4 ∧ Below w0.heap.size w0 w) : Below w0.heap.size w0 w := h.2.2.2.2.2

theorem near_any (g h b off n cap k : Nat) (px py x y : Int) (w : World) (hp : Vd px py) (hq : Vd x y) (hk : k < n) (_hn : n ≤ 64)
    (c0 : w.cell? ⟨g, 0, none⟩ = some (.int .i64 px)) (c1 : w.cell? ⟨g, 1, none⟩ = some (.int .i64 py)) (c2 : w.cell? ⟨h, 0, none⟩ = some (.slice (some ⟨b, off, none⟩) n cap))
    (c3 : w.cell? ⟨b, off + k * 2, none⟩ = some (.int .i64 x)) (c4 : w.cell? ⟨b, off + k * 2 + 1, none⟩ = some (.int .i64 y)) :
    Calls Tryz.prog 34 #[.int .i64 k, .pointer (some ⟨g, 0, none⟩), .pointer (some ⟨h, 0, none⟩)] w fun e w' => e = .returned (.int .i64 (-(sqd px py x y))) ∧ Below w.heap.size w w' := by
  have hk2 : (k : Int) < (n : Int) := by omega
  have HP := Lib.hid hp
  have HQ := Lib.hid hq
  have hsb := sqd_bd hp hq
  have hsn := sqd_nn px py x y
  have he : (x - px) * (x - px) + (y - py) * (y - py) = sqd px py x y := by unfold sqd; grind
  have HE := Lib.hid he
  obtain ⟨p0, p1, p2, p3⟩ := hp
  obtain ⟨q0, q1, q2, q3⟩ := hq
  clear he
  go_enter Tryz.func34, Tryz.ntmps34
  go_wp2_with (fail)
  go_region_held3 (fun w' => w'.cell? ⟨g, 0, none⟩ = some (.int .i64 px) ∧ w'.cell? ⟨g, 1, none⟩ = some (.int .i64 py) ∧ w'.cell? ⟨h, 0, none⟩ = some (.slice (some ⟨b, off, none⟩) n cap) ∧ w'.cell? ⟨b, off + k * 2, none⟩ = some (.int .i64 x) ∧ w'.cell? ⟨b, off + k * 2 + 1, none⟩ = some (.int .i64 y) ∧ Below w.heap.size w w')
    (first | assumption | exact keep5 (by assumption) (by assumption) | exact drew5 (by assumption) | (refine ⟨?_, ?_, ?_, ?_, ?_, ?_⟩ <;> (first | (go_cell; done) | (go_grown; done))))
    (first
      | (go_at_call 23; refine (wayto_any _ _ _ _ _ HP.out HQ.out).mono ?_; rintro e w1 ⟨rfl, hb⟩)
      | (go_at_call 26; refine (square_any _ _ _ (by omega) (by omega) (by omega) (by omega)).mono ?_; rintro e w1 ⟨rfl, hb⟩; rw [HE.out]))
  go_wp2
  go_ret
  exact ⟨ret_i (IntWalk.i64_in _ ⟨by omega, by omega⟩), keepB5 (by assumption)⟩
end Go.Proofs.YthggoboljkdldabGreatDoor
namespace Go.Proofs.YthggoboljkdldabGreatDoor
open Go.ChangeShapes Go.WideShapes Go.ChangeAt Go.RowKit Pm

theorem best_one (f : Int → Int) : Best f 1 0 := ⟨by omega, by omega, fun i h0 h1 => by rw [show i = 0 by omega]; exact Int.le_refl _, fun i h0 h1 => by omega⟩
theorem best_up {f : Int → Int} {k r : Int} (hk : 0 ≤ k) (h : Best f k r) (hlt : f r < f k) : Best f (k + 1) k := by
  obtain ⟨h0, h1, h2, h3⟩ := h
  refine ⟨hk, by omega, fun i i0 i1 => ?_, fun i i0 i1 => ?_⟩
  · by_cases hi : i < k
    · have := h2 i i0 hi; omega
    · rw [show i = k by omega]; exact Int.le_refl _
  · have := h2 i i0 i1; omega
theorem best_stay {f : Int → Int} {k r : Int} (h : Best f k r) (hlt : ¬ f r < f k) : Best f (k + 1) r := by
  obtain ⟨h0, h1, h2, h3⟩ := h
  refine ⟨h0, by omega, fun i i0 i1 => ?_, h3⟩
  by_cases hi : i < k
  · exact h2 i i0 hi
  · rw [show i = k by omega]; omega

/-- How near a point of a list is: less the square of its distance. -/
def nearF (px py : Int) (ps : List (Int × Int)) (i : Int) : Int := -(sqd px py (ps.getD i.toNat (0, 0)).1 (ps.getD i.toNat (0, 0)).2)
theorem vd_at {ps : List (Int × Int)} (h : ps.all okB = true) (k : Nat) (hk : k < ps.length) : Vd (ps.getD k (0, 0)).1 (ps.getD k (0, 0)).2 := by
  have := List.all_eq_true.1 h ps[k] (List.getElem_mem hk)
  rw [List.getD_eq_getElem?_getD, List.getElem?_eq_getElem hk]
  exact vd_of this

theorem first_any (g h b off cap : Nat) (px py : Int) (ps : List (Int × Int)) (w : World) (hp : Vd px py) (hall : ps.all okB = true) (hn : ps.length ≤ 64) (hn0 : 1 ≤ ps.length)
    (c0 : w.cell? ⟨g, 0, none⟩ = some (.int .i64 px)) (c1 : w.cell? ⟨g, 1, none⟩ = some (.int .i64 py)) (c2 : w.cell? ⟨h, 0, none⟩ = some (.slice (some ⟨b, off, none⟩) ps.length cap))
    (hc : ∀ i, i < ps.length → w.cell? ⟨b, off + i * 2, none⟩ = some (.int .i64 (ps.getD i (0, 0)).1) ∧ w.cell? ⟨b, off + i * 2 + 1, none⟩ = some (.int .i64 (ps.getD i (0, 0)).2)) :
    Calls Tryz.prog 35 #[.int .i64 ps.length, .func (.func 34) #[] #[.pointer (some ⟨g, 0, none⟩), .pointer (some ⟨h, 0, none⟩)]] w fun e w' => ∃ r, Best (nearF px py ps) ps.length r ∧ e = .returned (.int .i64 r) ∧ Below w.heap.size w w' := by
  have HC := Lib.hid (show ∀ (k : Nat) W, k < ps.length → Below w.heap.size w W → Calls Tryz.prog 34 #[.int .i64 k, .pointer (some ⟨g, 0, none⟩), .pointer (some ⟨h, 0, none⟩)] W fun e w' => e = .returned (.int .i64 (nearF px py ps k)) ∧ Below W.heap.size W w' from
    fun k W hk hB => near_any g h b off ps.length cap k px py _ _ W hp (vd_at hall k hk) hk hn (cell_below c0 hB) (cell_below c1 hB) (cell_below c2 hB) (cell_below (hc k hk).1 hB) (cell_below (hc k hk).2 hB))
  clear hp hall c0 c1 c2 hc
  have B1 := Lib.hid (best_one (nearF px py ps))
  have H0 := Lib.hid (HC.out 0)
  generalize nearF px py ps = f at *
  generalize ps.length = n at *
  go_enter Tryz.func35, Tryz.ntmps35
  go_wp2_with (go_at_call 34; refine (H0.out _ hn0 (by go_grown)).mono ?_; rintro e w1 ⟨rfl, hb⟩)
  go_loopw [5, 6, 7] (fun b m i wr => ∃ (k : Nat) (r : Int), k ≤ n ∧ i = .int .i64 k ∧ b = .int .i64 r ∧ m = .int .i64 (f r) ∧ Best f k r ∧ Below w.heap.size w wr) (fun _ _ i _ => n - (intOf i).toNat)
  case atStart => exact ⟨1, 0, hn0, rfl, rfl, rfl, B1.out, hb⟩
  case round =>
    obtain ⟨k, r, hk, rfl, rfl, rfl, hB, hbel⟩ := hrel
    have HB := Lib.hid hB
    have HBE := Lib.hid hbel
    clear hB hbel hb
    by_cases hlt : k < n
    · have hlt2 : (k : Int) < (n : Int) := by omega
      by_cases hg : f r < f k
      · have HN := Lib.hid (best_up (by omega) HB.out hg)
        go_wp2_with (go_at_call 34; refine (HC.out _ _ hlt HBE.out).mono ?_; rintro e w2 ⟨rfl, hb⟩; have ac := HBE.out.trans (hb.mono HBE.out.size); clear hb)
        go_roundw
        case rel => exact ⟨k + 1, k, by omega, by go_num, rfl, rfl, HN.out, by assumption⟩
        case measure => simp [intOf]; omega
      · have HN := Lib.hid (best_stay HB.out hg)
        go_wp2_with (go_at_call 34; refine (HC.out _ _ hlt HBE.out).mono ?_; rintro e w2 ⟨rfl, hb⟩; have ac := HBE.out.trans (hb.mono HBE.out.size); clear hb)
        go_roundw
        case rel => exact ⟨k + 1, r, by omega, by go_num, rfl, rfl, HN.out, by assumption⟩
        case measure => simp [intOf]; omega
    · have hge : ¬ (k : Int) < (n : Int) := by omega
      go_wp2
      go_ret
      exact ⟨r, by rw [show n = k by omega]; exact HB.out, rfl, HBE.out⟩
end Go.Proofs.YthggoboljkdldabGreatDoor
namespace Go.Proofs.YthggoboljkdldabGreatDoor
open Go.ChangeShapes Go.WideShapes Go.ChangeAt Go.RowKit Pm

def nearE (px py : Int) (ps : List (Int × Int)) : Int := if (okB (px, py) && ps.all okB) = true then (if 64 < ps.length then 5 else if ps.length = 0 then 6 else 0) else 1
def NearIs (px py : Int) (ps : List (Int × Int)) (r : Int) : Prop := if nearE px py ps = 0 then Best (nearF px py ps) ps.length r else r = 0
theorem NearIs.one {px py r s : Int} {ps : List (Int × Int)} (h : NearIs px py ps r) (k : NearIs px py ps s) : r = s := by
  unfold NearIs at h k
  by_cases hc : nearE px py ps = 0
  · rw [if_pos hc] at h k; exact h.one k
  · rw [if_neg hc] at h k; rw [h, k]
theorem near_no {px py : Int} {ps : List (Int × Int)} {e : Int} (h : nearE px py ps = e) (he : e ≠ 0) : NearIs px py ps 0 := by unfold NearIs; rw [if_neg (by rw [h]; exact he)]
theorem ret_n {r e e' : Int} (h : e = e') : Ending.returned (.tuple #[.int .i64 r, .int .i64 e]) = .returned (.tuple #[.int .i64 r, .int .i64 e']) := by rw [h]

set_option maxHeartbeats 1000000 in
theorem nearest_any (a : Option Addr) (c : Nat) (px py : Int) (ps : List (Int × Int)) (w : World) (hs : PtsAre w (.slice a ps.length c) ps) :
    Calls Tryz.prog 13 #[.slice a ps.length c, .agg #[.int .i64 px, .int .i64 py]] w fun e w' => ∃ r, NearIs px py ps r ∧ e = .returned (.tuple #[.int .i64 r, .int .i64 (nearE px py ps)]) ∧ Below w.heap.size w w' := by
  have HS := Lib.hid hs
  have e1 : [(px, py)].all okB = okB (px, py) := by simp
  cases h1 : okB (px, py)
  · have HE := Lib.hid (show nearE px py ps = 1 by unfold nearE; rw [if_neg (by simp [h1])])
    have HN := Lib.hid (near_no HE.out (by decide))
    rw [h1] at e1
    have E1 := Lib.hid e1
    clear e1 h1 hs
    go_enter Tryz.func13, Tryz.ntmps13
    go_wp2_with (first
      | (go_at_call 21; refine (arepts_any _ _ _ (pts_one _ _ _ _ (by simp))).mono ?_; rintro e w1 ⟨rfl, hb⟩; rw [E1.out]; have ac := Below.next (a := w) (by go_grown) hb; have az := ac.size; have c0 := cell_below (a := ⟨w.heap.size, 0, none⟩) (v := .slice a ps.length c) (by go_cell) hb; have c1 := cell_below (a := ⟨w.heap.size + 1, 0, none⟩) (v := .int .i64 px) (by go_cell) hb; have c2 := cell_below (a := ⟨w.heap.size + 1, 1, none⟩) (v := .int .i64 py) (by go_cell) hb; clear hb))
    go_ret2
    exact ⟨0, HN.out, ret_n HE.out.symm, by go_grown⟩
  · rw [h1] at e1
    have E1 := Lib.hid e1
    have hp := vd_of h1
    cases h2 : ps.all okB
    · have HE := Lib.hid (show nearE px py ps = 1 by unfold nearE; rw [if_neg (by simp [h2])])
      have HN := Lib.hid (near_no HE.out (by decide))
      have E2 := Lib.hid h2
      clear e1 h1 h2 hs hp
      go_enter Tryz.func13, Tryz.ntmps13
      go_wp2_with (first
        | (go_at_call 21; refine (arepts_any _ _ _ (HS.out.below ac)).mono ?_; rintro e w2 ⟨rfl, hb⟩; rw [E2.out]; have ac2 := Below.next (a := w) (by go_grown) hb; have az2 := ac2.size; have c0 := cell_below (a := ⟨w.heap.size, 0, none⟩) (v := .slice a ps.length c) (by go_cell) hb; have c1 := cell_below (a := ⟨w.heap.size + 1, 0, none⟩) (v := .int .i64 px) (by go_cell) hb; have c2 := cell_below (a := ⟨w.heap.size + 1, 1, none⟩) (v := .int .i64 py) (by go_cell) hb; clear hb)
        | (go_at_call 21; refine (arepts_any _ _ _ (pts_one _ _ _ _ (by simp))).mono ?_; rintro e w1 ⟨rfl, hb⟩; rw [E1.out]; have ac := Below.next (a := w) (by go_grown) hb; have az := ac.size; have c0 := cell_below (a := ⟨w.heap.size, 0, none⟩) (v := .slice a ps.length c) (by go_cell) hb; have c1 := cell_below (a := ⟨w.heap.size + 1, 0, none⟩) (v := .int .i64 px) (by go_cell) hb; have c2 := cell_below (a := ⟨w.heap.size + 1, 1, none⟩) (v := .int .i64 py) (by go_cell) hb; clear hb))
      go_ret2
      exact ⟨0, HN.out, ret_n HE.out.symm, by go_grown⟩
    · have E2 := Lib.hid h2
      by_cases h64 : 64 < ps.length
      · have HE := Lib.hid (show nearE px py ps = 5 by unfold nearE; rw [if_pos (by simp [h1, h2]), if_pos h64])
        have HN := Lib.hid (near_no HE.out (by decide))
        have h65 : (64 : Int) < (ps.length : Int) := by omega
        clear e1 h1 h2 hs hp h64
        go_enter Tryz.func13, Tryz.ntmps13
        go_wp2_with (first
          | (go_at_call 21; refine (arepts_any _ _ _ (HS.out.below ac)).mono ?_; rintro e w2 ⟨rfl, hb⟩; rw [E2.out]; have ac2 := Below.next (a := w) (by go_grown) hb; have az2 := ac2.size; have c0 := cell_below (a := ⟨w.heap.size, 0, none⟩) (v := .slice a ps.length c) (by go_cell) hb; have c1 := cell_below (a := ⟨w.heap.size + 1, 0, none⟩) (v := .int .i64 px) (by go_cell) hb; have c2 := cell_below (a := ⟨w.heap.size + 1, 1, none⟩) (v := .int .i64 py) (by go_cell) hb; clear hb)
          | (go_at_call 21; refine (arepts_any _ _ _ (pts_one _ _ _ _ (by simp))).mono ?_; rintro e w1 ⟨rfl, hb⟩; rw [E1.out]; have ac := Below.next (a := w) (by go_grown) hb; have az := ac.size; have c0 := cell_below (a := ⟨w.heap.size, 0, none⟩) (v := .slice a ps.length c) (by go_cell) hb; have c1 := cell_below (a := ⟨w.heap.size + 1, 0, none⟩) (v := .int .i64 px) (by go_cell) hb; have c2 := cell_below (a := ⟨w.heap.size + 1, 1, none⟩) (v := .int .i64 py) (by go_cell) hb; clear hb))
        go_ret2
        exact ⟨0, HN.out, ret_n HE.out.symm, by go_grown⟩
      · have h65 : ¬ (64 : Int) < (ps.length : Int) := by omega
        by_cases h0 : ps.length = 0
        · have HE := Lib.hid (show nearE px py ps = 6 by unfold nearE; rw [if_pos (by simp [h1, h2]), if_neg h64, if_pos h0])
          have HN := Lib.hid (near_no HE.out (by decide))
          have hz : ((ps.length : Int) == 0) = true := by simp [h0]
          clear e1 h1 h2 hs hp h64 h0
          go_enter Tryz.func13, Tryz.ntmps13
          go_wp2_with (first
            | (go_at_call 21; refine (arepts_any _ _ _ (HS.out.below ac)).mono ?_; rintro e w2 ⟨rfl, hb⟩; rw [E2.out]; have ac2 := Below.next (a := w) (by go_grown) hb; have az2 := ac2.size; have c0 := cell_below (a := ⟨w.heap.size, 0, none⟩) (v := .slice a ps.length c) (by go_cell) hb; have c1 := cell_below (a := ⟨w.heap.size + 1, 0, none⟩) (v := .int .i64 px) (by go_cell) hb; have c2 := cell_below (a := ⟨w.heap.size + 1, 1, none⟩) (v := .int .i64 py) (by go_cell) hb; clear hb)
            | (go_at_call 21; refine (arepts_any _ _ _ (pts_one _ _ _ _ (by simp))).mono ?_; rintro e w1 ⟨rfl, hb⟩; rw [E1.out]; have ac := Below.next (a := w) (by go_grown) hb; have az := ac.size; have c0 := cell_below (a := ⟨w.heap.size, 0, none⟩) (v := .slice a ps.length c) (by go_cell) hb; have c1 := cell_below (a := ⟨w.heap.size + 1, 0, none⟩) (v := .int .i64 px) (by go_cell) hb; have c2 := cell_below (a := ⟨w.heap.size + 1, 1, none⟩) (v := .int .i64 py) (by go_cell) hb; clear hb))
          go_ret2
          exact ⟨0, HN.out, ret_n HE.out.symm, by go_grown⟩
        · have HE := Lib.hid (show nearE px py ps = 0 by unfold nearE; rw [if_pos (by simp [h1, h2]), if_neg h64, if_neg h0])
          have HD := Lib.hid (fun r (h : Best (nearF px py ps) ps.length r) => (show NearIs px py ps r by unfold NearIs; rw [if_pos HE.out]; exact h))
          have hz : ((ps.length : Int) == 0) = false := by rw [beq_eq_false_iff_ne]; omega
          obtain ⟨b, off, hab, hc⟩ : ∃ b off, a = some ⟨b, off, none⟩ ∧ ∀ i, i < ps.length → w.cell? ⟨b, off + i * 2, none⟩ = some (.int .i64 (ps.getD i (0, 0)).1) ∧ w.cell? ⟨b, off + i * 2 + 1, none⟩ = some (.int .i64 (ps.getD i (0, 0)).2) := by
            rcases hs with ⟨hv, hnil⟩ | ⟨b, off, cap, hv, _, hc⟩
            · rw [hnil] at h0; exact absurd rfl h0
            · exact ⟨b, off, by simpa using congrArg (fun v => match v with | Value.slice a _ _ => a | _ => none) hv, hc⟩
          subst hab
          have HF := Lib.hid (fun g h W (hB : Below w.heap.size w W) c0 c1 c2 => first_any g h b off c px py ps W hp h2 (by omega) (by omega) c0 c1 c2 (fun i hi => ⟨cell_below (hc i hi).1 hB, cell_below (hc i hi).2 hB⟩))
          clear e1 h1 h2 hs hp h64 h0 hc
          go_enter Tryz.func13, Tryz.ntmps13
          go_wp2_with (first
            | (go_at_call 21; refine (arepts_any _ _ _ (HS.out.below ac)).mono ?_; rintro e w2 ⟨rfl, hb⟩; rw [E2.out]; have ac2 := Below.next (a := w) (by go_grown) hb; have az2 := ac2.size; have c0 := cell_below (a := ⟨w.heap.size, 0, none⟩) (v := .slice (some ⟨b, off, none⟩) ps.length c) (by go_cell) hb; have c1 := cell_below (a := ⟨w.heap.size + 1, 0, none⟩) (v := .int .i64 px) (by go_cell) hb; have c2 := cell_below (a := ⟨w.heap.size + 1, 1, none⟩) (v := .int .i64 py) (by go_cell) hb; clear hb)
            | (go_at_call 21; refine (arepts_any _ _ _ (pts_one _ _ _ _ (by simp))).mono ?_; rintro e w1 ⟨rfl, hb⟩; rw [E1.out]; have ac := Below.next (a := w) (by go_grown) hb; have az := ac.size; have c0 := cell_below (a := ⟨w.heap.size, 0, none⟩) (v := .slice (some ⟨b, off, none⟩) ps.length c) (by go_cell) hb; have c1 := cell_below (a := ⟨w.heap.size + 1, 0, none⟩) (v := .int .i64 px) (by go_cell) hb; have c2 := cell_below (a := ⟨w.heap.size + 1, 1, none⟩) (v := .int .i64 py) (by go_cell) hb; clear hb)
            | (go_at_call 35; refine (HF.out _ _ _ ac2 c1 c2 c0).mono ?_; rintro e w3 ⟨r, hr, rfl, hb⟩; have ac3 := Below.next (a := w) (by go_grown) hb; clear hb))
          go_ret2
          exact ⟨r, HD.out r hr, ret_n HE.out.symm, by go_grown⟩
end Go.Proofs.YthggoboljkdldabGreatDoor
