/- The four places around a danger: the program's, the model's. -/
import Derived.Test.YthccbipjmheoaaaDoorDgv
import Derived.Test.YthccbipjmheoaaaDoorMvI
import Derived.Test.YthccbipjmheoaaaDoorNearA
import Derived.Test.YthccbipjmheoaaaDoorPtk
import Derived.Deep.RegionHeld3
namespace Go.Proofs.YthccbipjmheoaaaDoor
open Go.ChangeShapes Go.WideShapes Go.ChangeAt Go.RowKit Pm

def fourP (x y r : Int) : Pts := [(x, y + r), (x + r, y), (x, y - r), (x - r, y)]
theorem fourP_len (x y r : Int) : (fourP x y r).length = 4 := rfl
def cplE (d : Dg) (a : Int) : Int := if okD d = true then (if inB 0 20000 [a] = true then (if (fourP d.2.1 d.2.2.1 (d.2.2.2 + a)).all okB = true then 0 else 6) else 2) else 1
def cplP (d : Dg) (a : Int) : Pts := if cplE d a = 0 then fourP d.2.1 d.2.2.1 (d.2.2.2 + a) else []
def CplRet (d : Dg) (a : Int) (w : World) (e : Ending) (w' : World) : Prop :=
  ∃ v, e = .returned (.tuple #[v, .int .i64 (cplE d a)]) ∧ OwnPt w' w.heap.size v (cplP d a) ∧ Below w.heap.size w w'
theorem cpl_bad {d : Dg} {a : Int} {w w' : World} {c : Int} (h : cplE d a = c) (hc : c ≠ 0) (hb : Below w.heap.size w w') : CplRet d a w (.returned (.tuple #[.slice none 0 0, .int .i64 c])) w' := by
  have hp : cplP d a = [] := by unfold cplP; rw [if_neg (by rw [h]; exact hc)]
  exact ⟨_, by rw [h], by rw [hp]; exact OwnPt.empty _ _, hb⟩
theorem dvr_one (d : Int) : dvr (d * 1000000) 1000000 = d := by have := dnear (d * 1000000) 1000000 (by omega); omega
theorem dvr_neg (d : Int) : dvr (d * -1000000) 1000000 = -d := by have := dnear (d * -1000000) 1000000 (by omega); omega
theorem dvr_zero (d : Int) : dvr (d * 0) 1000000 = 0 := by have := dnear (d * 0) 1000000 (by omega); omega
theorem four_mv (x y r : Int) (k : Nat) (hk : k < 4) : mvX x (90 * (k : Int)) r = ((fourP x y r).getD k (0, 0)).1 ∧ mvY y (90 * (k : Int)) r = ((fourP x y r).getD k (0, 0)).2 := by
  have s0 : sinR 0 = 0 := by decide +kernel
  have s1 : sinR 90 = 1000000 := by decide +kernel
  have s2 : sinR 180 = 0 := by decide +kernel
  have s3 : sinR 270 = -1000000 := by decide +kernel
  have c0 : cosR 0 = 1000000 := by decide +kernel
  have c1 : cosR 90 = 0 := by decide +kernel
  have c2 : cosR 180 = -1000000 := by decide +kernel
  have c3 : cosR 270 = 0 := by decide +kernel
  unfold mvX mvY
  match k, hk with
  | 0, _ => exact ⟨by show x + dvr (r * sinR 0) 1000000 = x; rw [s0, dvr_zero]; omega, by show y + dvr (r * cosR 0) 1000000 = y + r; rw [c0, dvr_one]⟩
  | 1, _ => exact ⟨by show x + dvr (r * sinR 90) 1000000 = x + r; rw [s1, dvr_one], by show y + dvr (r * cosR 90) 1000000 = y; rw [c1, dvr_zero]; omega⟩
  | 2, _ => exact ⟨by show x + dvr (r * sinR 180) 1000000 = x; rw [s2, dvr_zero]; omega, by show y + dvr (r * cosR 180) 1000000 = y - r; rw [c2, dvr_neg]; omega⟩
  | 3, _ => exact ⟨by show x + dvr (r * sinR 270) 1000000 = x - r; rw [s3, dvr_neg]; omega, by show y + dvr (r * cosR 270) 1000000 = y; rw [c3, dvr_zero]; omega⟩
theorem four_e (x y r : Int) (k : Nat) (hk : k < 4) (hv : okB (x, y) = true) (h0 : 0 ≤ r) (h1 : r ≤ 300000) : mvE x y (90 * (k : Int)) r = if okB ((fourP x y r).getD k (0, 0)) = true then 0 else 6 := by
  obtain ⟨e1, e2⟩ := four_mv x y r k hk
  unfold mvE
  rw [if_pos (show inB 0 200000 [x, y] = true from hv), if_pos (show inB 0 300000 [r] = true by simp [inB]; omega), e1, e2]
  rfl
theorem take_all {ps : Pts} {k : Nat} (hk : k < ps.length) (h : (ps.take k).all okB = true) (h2 : okB (ps.getD k (0, 0)) = true) : (ps.take (k + 1)).all okB = true := by
  rw [List.take_succ_eq_append_getElem hk, List.all_append, h]
  simpa [hk] using h2
theorem not_all {ps : Pts} {k : Nat} (hk : k < ps.length) (h2 : okB (ps.getD k (0, 0)) = false) : ps.all okB = false := by
  cases e : ps.all okB
  · rfl
  · have := List.all_eq_true.1 e ps[k] (List.getElem_mem hk)
    rw [show ps.getD k (0, 0) = ps[k] by simp [hk]] at h2
    rw [h2] at this; exact absurd this (by decide)
theorem margin_any (m : Int) (w : World) :
    Calls Tryd.prog 27 #[.int .i64 m] w fun e w' => e = .returned (.bool (inB 0 20000 [m])) ∧ Below w.heap.size w w' := by
  have HW := Lib.hid (within_any 0 20000 _ [m] _ (ints_one_at w m w.heap.size rfl))
  generalize inB 0 20000 [m] = r at *
  go_enter Tryd.func27, Tryd.ntmps27
  go_wp2_with (go_at_call 38; (refine HW.out.mono ?_); rintro e w1 ⟨rfl, rfl⟩)
  go_ret
  exact ⟨rfl, by go_grown⟩
set_option maxRecDepth 100000 in
set_option maxHeartbeats 4000000 in
theorem cardplaces_any (s : ByteArray) (x y z a : Int) (w : World) (hs : s.size ≤ maxLen) (hS : SinesAt w) :
    Calls Tryd.prog 12 #[.agg #[.string s, .int .i64 x, .int .i64 y, .int .i64 z], .int .i64 a] w (CplRet (s, x, y, z) a w) := by
  have HV := fun w' => validdg_any s x y z w' hs
  have HM := fun w' => margin_any a w'
  have HSI := Lib.hid hS
  clear hS
  cases hk : okD (s, x, y, z)
  · rw [hk] at HV
    have HV := Lib.hid HV
    have HC := Lib.hid (show cplE (s, x, y, z) a = 1 by unfold cplE; rw [hk]; rfl)
    clear hk HM
    go_enter Tryd.func12, Tryd.ntmps12
    go_wp2_with (go_at_call 21; (refine (HV.out _).mono ?_); rintro e w1 ⟨rfl, hb⟩; have AC := Lib.hid (Below.next (a := w) (by go_grown) hb); clear hb)
    refine bodyPost_ret (v := .tuple #[.slice none 0 0, .int .i64 1]) (by simp [results, Tryd.results12, go_sem, *]) rfl (cpl_bad HC.out (by decide) AC.out)
  rw [hk] at HV
  have HV := Lib.hid HV
  cases hq : inB 0 20000 [a]
  · rw [hq] at HM
    have HM := Lib.hid HM
    have HC := Lib.hid (show cplE (s, x, y, z) a = 2 by unfold cplE; rw [hk, hq]; rfl)
    clear hk hq
    go_enter Tryd.func12, Tryd.ntmps12
    go_wp2_with (first
      | (go_at_call 21; (refine (HV.out _).mono ?_); rintro e w1 ⟨rfl, hb⟩; have AC := Lib.hid (Below.next (a := w) (by go_grown) hb); clear hb)
      | (go_at_call 27; (refine (HM.out _).mono ?_); rintro e w2 ⟨rfl, hb⟩; have AC2 := Lib.hid (Below.next AC.out hb); clear hb))
    refine bodyPost_ret (v := .tuple #[.slice none 0 0, .int .i64 2]) (by simp [results, Tryd.results12, go_sem, *]) rfl (cpl_bad HC.out (by decide) AC2.out)
  rw [hq] at HM
  have HM := Lib.hid HM
  obtain ⟨_, _, hv, hz0, hz1⟩ := okD_parts hk
  have ha : 0 ≤ a ∧ a ≤ 20000 := by simpa [inB] using hq
  simp only at hv hz0 hz1
  have hwr : IntKind.i64.wrap (z + a) = z + a := IntWalk.i64_in _ ⟨by omega, by omega⟩
  have HE := Lib.hid (fun k hk4 => four_e x y (z + a) k hk4 hv (by omega) (by omega))
  have HM4 := Lib.hid (fun k hk4 => four_mv x y (z + a) k hk4)
  have HC0 := Lib.hid (show (fourP x y (z + a)).all okB = true → cplE (s, x, y, z) a = 0 from fun h => by unfold cplE; rw [if_pos hk, if_pos hq, if_pos h])
  have HC6 := Lib.hid (show (fourP x y (z + a)).all okB = false → cplE (s, x, y, z) a = 6 from fun h => by unfold cplE; rw [if_pos hk, if_pos hq, if_neg (by rw [h]; decide)])
  have HP0 := Lib.hid (show cplE (s, x, y, z) a = 0 → cplP (s, x, y, z) a = fourP x y (z + a) from fun h => by unfold cplP; rw [if_pos h])
  clear hk hq hv hz0 hz1 ha
  go_enter Tryd.func12, Tryd.ntmps12
  go_wp2_with (first
    | (go_at_call 21; (refine (HV.out _).mono ?_); rintro e w1 ⟨rfl, hb⟩; have D1 := Lib.hid ((DgAt.new (w := w) (T := 31) (s, x, y, z) w.heap.size rfl).below hb); have AC := Lib.hid (Below.next (a := w) (by go_grown) hb); clear hb)
    | (go_at_call 27; (refine (HM.out _).mono ?_); rintro e w2 ⟨rfl, hb⟩; replace D1 := Lib.hid (D1.out.below hb); have AC2 := Lib.hid (Below.next AC.out hb); clear hb))
  have hB2 : w.heap.size < w2.heap.size := World.block_lt_of_cell? _ _ D1.out.1
  clear AC HM HV
  go_loopw [6, 7] (fun p i wr => ∃ (k : Nat) (a' : Option Addr) (c' : Nat), k ≤ 4 ∧ i = .int .i64 (90 * (k : Int)) ∧ p = .slice a' k c' ∧ OwnPt wr (w.heap.size + 1) (.slice a' k c') ((fourP x y (z + a)).take k) ∧ ((fourP x y (z + a)).take k).all okB = true ∧ DgAt wr w.heap.size 0 (s, x, y, z) ∧ Below w.heap.size w wr) (fun _ i _ => (360 - intOf i).toNat)
  case atStart => exact ⟨0, none, 0, by omega, rfl, rfl, OwnPt.empty _ _, rfl, D1.out, AC2.out⟩
  case round =>
    obtain ⟨k, a', c', hk4, rfl, rfl, hown, hall, hdg, hbel⟩ := hrel
    have HOW := Lib.hid hown
    have HAL := Lib.hid hall
    have HDG := Lib.hid hdg
    have HB := Lib.hid hbel
    have hwB : w.heap.size < wr.heap.size := World.block_lt_of_cell? _ _ hdg.1
    clear hown hall hdg hbel
    obtain ⟨x0, x1, x2, x3⟩ := HDG.out
    by_cases hlt : k < 4
    · have hkn : (90 * (k : Int)) < 360 := by omega
      have hE := HE.out k hlt
      obtain ⟨m1, m2⟩ := HM4.out k hlt
      have HMV := fun w' hS => move_any x y (90 * (k : Int)) (z + a) w' hS
      unfold mvPX mvPY at HMV
      rw [hE, m1, m2] at HMV
      have HLA := Lib.hid (fun h => take_all (ps := fourP x y (z + a)) (k := k) hlt HAL.out h)
      have HNA := Lib.hid (fun h => not_all (ps := fourP x y (z + a)) (k := k) hlt h)
      have HSQ := Lib.hid (show (fourP x y (z + a)).take (k + 1) = (fourP x y (z + a)).take k ++ [(fourP x y (z + a)).getD k (0, 0)] by
        have hlt2 : k < (fourP x y (z + a)).length := hlt
        rw [List.take_succ_eq_append_getElem hlt2]; simp [hlt2])
      have hll : ((fourP x y (z + a)).take k).length ≤ 1048577 := by rw [List.length_take, fourP_len]; omega
      have hkl : ((fourP x y (z + a)).take k).length = k := by rw [List.length_take, fourP_len]; omega
      generalize hL : (fourP x y (z + a)).take k = L at *
      generalize hqq : (fourP x y (z + a)).getD k (0, 0) = q at *
      obtain ⟨px, py⟩ := q
      cases hqb : okB (px, py)
      · rw [hqb] at HMV
        simp only [Bool.false_eq_true, if_false, show ¬ ((6 : Int) = 0) by decide] at HMV
        have HMV := Lib.hid HMV
        have HC := Lib.hid (HC6.out (HNA.out hqb))
        clear hqb hE m1 m2 HLA HNA HSQ hL hqq
        go_wp2_with (go_at_call 28; (refine (HMV.out _ (HSI.out.below HB.out)).mono ?_); rintro e w4 ⟨rfl, hb⟩; have AC4 := Lib.hid (Below.next HB.out hb); clear hb)
        refine bodyPost_ret (v := .tuple #[.slice none 0 0, .int .i64 6]) (by simp [results, Tryd.results12, go_sem, *]) rfl (cpl_bad HC.out (by decide) (by first | exact AC4.out | exact AC4.out.alloc AC4.out.size _))
      · rw [hqb] at HMV
        simp only [if_true] at HMV
        have HMV := Lib.hid HMV
        have HAL2 := Lib.hid (HLA.out hqb)
        clear hqb hE m1 m2 HLA HNA hL hqq
        go_wp2_with (go_at_call 28; (refine (HMV.out _ (HSI.out.below HB.out)).mono ?_); rintro e w4 ⟨rfl, hb⟩; refine Hid.out ?_)
        refine Lib.hid ?_
        have ab := (Below.refl w4.heap.size w4).alloc (Nat.le_refl _) (.cells #[.int .i64 px, .int .i64 py] 29)
        have D4 := Lib.hid ((HDG.out.below hb).below ab)
        have OA := Lib.hid ((HOW.out.below hb).below ab)
        have BA := Lib.hid ((HB.out.trans (hb.mono (by omega))).trans (ab.mono (by have := hb.size; omega)))
        have hos2 : w.heap.size + 1 ≤ (w4.alloc (.cells #[.int .i64 px, .int .i64 py] 29)).heap.size := by have := hb.size; simp; omega
        clear hb ab x0 x1 x2 x3
        go_wp2_with (at_builtin; (refine wpList_app_pt rfl _ _ (w.heap.size + 1) (.slice a' k c') L px py _ _ OA.out hos2 hll rfl rfl _ (by simp) rfl ?_))
        intro v' w' h1 h2
        obtain ⟨a2, c2', rfl⟩ := h1.form
        have hz := Lib.hid h1
        have D5 := Lib.hid (show DgAt w' w.heap.size 0 (s, x, y, z) from ⟨(h2.cell (p := ⟨w.heap.size, 0, none⟩) (by simp)).trans D4.out.1, (h2.cell (p := ⟨w.heap.size, 1, none⟩) (by simp)).trans D4.out.2.1, (h2.cell (p := ⟨w.heap.size, 2, none⟩) (by simp)).trans D4.out.2.2.1, (h2.cell (p := ⟨w.heap.size, 3, none⟩) (by simp)).trans D4.out.2.2.2⟩)
        have ZB := Lib.hid (BA.out.trans (h2.mono (by omega)))
        rw [show (L ++ [(px, py)]).length = k + 1 by simp [hkl]] at hz ⊢
        clear h1 h2
        go_wp2
        go_roundw
        case rel => exact ⟨k + 1, a2, c2', by omega, by go_num, rfl, by rw [HSQ.out]; exact hz.out, HAL2.out, D5.out, ZB.out⟩
        case measure => simp [intOf]; omega
    · obtain rfl : k = 4 := by omega
      have HAA := Lib.hid (show (fourP x y (z + a)).all okB = true from HAL.out)
      have HC := Lib.hid (HC0.out HAA.out)
      clear x0 x1 x2 x3
      go_wp2
      refine bodyPost_ret (v := .tuple #[.slice a' 4 c', .int .i64 0]) (by simp [results, Tryd.results12, go_sem, *]) rfl ⟨_, by rw [HC.out], by rw [HP0.out HC.out]; exact OwnPt.mono HOW.out (by omega), HB.out⟩
end Go.Proofs.YthccbipjmheoaaaDoor
