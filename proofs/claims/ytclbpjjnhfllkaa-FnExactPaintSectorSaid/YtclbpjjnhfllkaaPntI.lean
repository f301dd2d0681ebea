/- A painted list: the program's. -/
import Derived.Test.YtclbpjjnhfllkaaMrgI
namespace Go.Proofs.Ytclbpjjnhfllkaa
open Go.ChangeShapes Go.WideShapes Go.ChangeAt Go.RowKit Pm

set_option maxRecDepth 100000 in
set_option maxHeartbeats 8000000 in
theorem paintsec_any (v : Value) (ps : List Sec) (f t : Int) (x : ByteArray) (w : World) (h : SecAre w v ps) :
    Calls Try.prog 37 #[v, .agg #[.int .i64 f, .int .i64 t, .string x]] w (OwnSC (pntV ps (f, t, x)) (pntC ps (f, t, x)) w) := by
  have hbx : Below w.heap.size w (w.alloc (.cells #[.int .i64 f, .int .i64 t, .string x] 26)) := (Below.refl _ _).alloc (Nat.le_refl _) _
  have HSX := Lib.hid (show SecAt (w.alloc (.cells #[.int .i64 f, .int .i64 t, .string x] 26)) w.heap.size 0 (f, t, x) from ⟨by simp, by simp, by simp⟩)
  have HB0 := Lib.hid hbx
  have HS := Lib.hid (okay_any v ps _ (h.below hbx))
  cases hv : validS ps
  · rw [hv] at HS
    have H1 := Lib.hid (show pntV ps (f, t, x) = [] by unfold pntV; rw [hv]; rfl)
    have H2 := Lib.hid (show pntC ps (f, t, x) = 1 by unfold pntC; rw [hv]; rfl)
    clear h hbx
    go_enter Try.func37, Try.ntmps37
    go_wp2_with (go_at_call 20; refine HS.out.mono ?_; rintro e w1 ⟨rfl, hb⟩; have AC := Lib.hid (Below.next HB0.out hb); clear hb)
    go_ret2
    exact ownsc_no H1.out H2.out AC.out
  rw [hv] at HS
  have HPO := Lib.hid (show pntOk (f, t, x) = (endsB (f, t, x) && (drk x || colB x)) from rfl)
  have HOK := Lib.hid (show okSec (f, t, x) = (endsB (f, t, x) && colB x) from rfl)
  have HAR := Lib.hid (fun w => arcof_any f t x w)
  have HDK := Lib.hid (fun w => isdark_any f t x w)
  have HVS := Lib.hid (fun w => validsec_any f t x w)
  have HZA := Lib.hid (show endsB (f, t, x) = false → arcS (f, t, x) = 0 from fun h => by unfold arcS; rw [h]; rfl)
  have HZP := Lib.hid (show endsB (f, t, x) = true → arcS (f, t, x) ≠ 0 from fun h => by
    have h2 : (inD f && inD t) = true := h
    rw [Bool.and_eq_true] at h2
    have := arcV_bd h2.1 h2.2
    have e : arcS (f, t, x) = arcV f t := by unfold arcS; rw [h]; rfl
    omega)
  cases he : endsB (f, t, x)
  · have hz := HZA.out he
    rw [hz] at HAR
    have hp : pntOk (f, t, x) = false := by rw [HPO.out, he]; rfl
    obtain ⟨dk, hdk⟩ : ∃ dk, dk = drk x := ⟨_, rfl⟩
    rw [← hdk] at HDK
    clear hdk hz
    have H1 := Lib.hid (show pntV ps (f, t, x) = [] by unfold pntV; rw [hv, hp]; rfl)
    have H2 := Lib.hid (show pntC ps (f, t, x) = 2 by unfold pntC; rw [hv, hp]; rfl)
    generalize okSec (f, t, x) = ok at *
    generalize endsB (f, t, x) = eb at *
    clear hp h hbx hv HPO HOK HZA HZP
    go_enter Try.func37, Try.ntmps37
    go_wp2_with (first
      | (go_at_call 20; refine HS.out.mono ?_; rintro e w1 ⟨rfl, hb⟩; have AC := Lib.hid (Below.next HB0.out hb); have s0 : w1.cell? ⟨w.heap.size, 0, none⟩ = some (.int .i64 f) := cell_below (by simp) hb; have s1 : w1.cell? ⟨w.heap.size, 1, none⟩ = some (.int .i64 t) := cell_below (by simp) hb; have s2 : w1.cell? ⟨w.heap.size, 2, none⟩ = some (.string x) := cell_below (by simp) hb; clear hb)
      | (go_at_call 25; refine (HAR.out _).mono ?_; rintro e w1 ⟨rfl, hb⟩; replace s0 := cell_below s0 hb; replace s1 := cell_below s1 hb; replace s2 := cell_below s2 hb; replace AC := Lib.hid (Below.next AC.out hb); clear hb)
      | (go_at_call 57; refine (HDK.out _).mono ?_; rintro e w1 ⟨rfl, hb⟩; replace s0 := cell_below s0 hb; replace s1 := cell_below s1 hb; replace s2 := cell_below s2 hb; replace AC := Lib.hid (Below.next AC.out hb); clear hb)
      | (go_at_call 16; refine (HVS.out _).mono ?_; rintro e w1 ⟨rfl, hb⟩; replace s0 := cell_below s0 hb; replace s1 := cell_below s1 hb; replace s2 := cell_below s2 hb; replace AC := Lib.hid (Below.next AC.out hb); clear hb))
    go_ret2
    exact ownsc_no H1.out H2.out AC.out
  · have hz := HZP.out he
    have hz1 : (arcS (f, t, x) == 0) = false := by rw [beq_eq_false_iff_ne]; exact hz
    cases hd : drk x
    · rw [hd] at HDK
      cases hc : colB x
      · have hok : okSec (f, t, x) = false := by rw [HOK.out, hc]; simp
        rw [hok] at HVS
        have hp : pntOk (f, t, x) = false := by rw [HPO.out, hd, hc]; simp
        generalize arcS (f, t, x) = y at *
        clear hok hd hc
        have H1 := Lib.hid (show pntV ps (f, t, x) = [] by unfold pntV; rw [hv, hp]; rfl)
        have H2 := Lib.hid (show pntC ps (f, t, x) = 2 by unfold pntC; rw [hv, hp]; rfl)
        generalize okSec (f, t, x) = ok at *
        generalize endsB (f, t, x) = eb at *
        clear hp h hbx hv HPO HOK HZA HZP
        go_enter Try.func37, Try.ntmps37
        go_wp2_with (first
          | (go_at_call 20; refine HS.out.mono ?_; rintro e w1 ⟨rfl, hb⟩; have AC := Lib.hid (Below.next HB0.out hb); have s0 : w1.cell? ⟨w.heap.size, 0, none⟩ = some (.int .i64 f) := cell_below (by simp) hb; have s1 : w1.cell? ⟨w.heap.size, 1, none⟩ = some (.int .i64 t) := cell_below (by simp) hb; have s2 : w1.cell? ⟨w.heap.size, 2, none⟩ = some (.string x) := cell_below (by simp) hb; clear hb)
          | (go_at_call 25; refine (HAR.out _).mono ?_; rintro e w1 ⟨rfl, hb⟩; replace s0 := cell_below s0 hb; replace s1 := cell_below s1 hb; replace s2 := cell_below s2 hb; replace AC := Lib.hid (Below.next AC.out hb); clear hb)
          | (go_at_call 57; refine (HDK.out _).mono ?_; rintro e w1 ⟨rfl, hb⟩; replace s0 := cell_below s0 hb; replace s1 := cell_below s1 hb; replace s2 := cell_below s2 hb; replace AC := Lib.hid (Below.next AC.out hb); clear hb)
          | (go_at_call 16; refine (HVS.out _).mono ?_; rintro e w1 ⟨rfl, hb⟩; replace s0 := cell_below s0 hb; replace s1 := cell_below s1 hb; replace s2 := cell_below s2 hb; replace AC := Lib.hid (Below.next AC.out hb); clear hb))
        go_ret2
        exact ownsc_no H1.out H2.out AC.out
      · have hok : okSec (f, t, x) = true := by rw [HOK.out, he, hc]; rfl
        rw [hok] at HVS
        have hp : pntOk (f, t, x) = true := by rw [HPO.out, he, hd, hc]; rfl
        clear hok hd hc
        have H1 := Lib.hid (show pntV ps (f, t, x) = if (pntS ps (f, t, x)).length ≤ 12 then pntS ps (f, t, x) else [] by unfold pntV; rw [hv, hp]; rfl)
        have H2 := Lib.hid (show pntC ps (f, t, x) = if (pntS ps (f, t, x)).length ≤ 12 then 0 else 5 by unfold pntC; rw [hv, hp]; rfl)
        have hsl : (pntS ps (f, t, x)).length ≤ 360 := simp_len _ _
        have HPS := Lib.hid (show pntS ps (f, t, x) = simpV (cF (paintK (circL ps) f x (arcS (f, t, x)))) false from rfl)
        have HEF := Lib.hid (show 0 ≤ f ∧ f ≤ 359 by
          have : endsB (f, t, x) = true := he
          simp only [endsB, Bool.and_eq_true, inD_iff] at this
          exact this.1)
        have HPA := Lib.hid (fun g L w h => paint_any g L f t x w h HEF.out)
        generalize pntS ps (f, t, x) = R at *
        generalize arcS (f, t, x) = y at *
        generalize okSec (f, t, x) = ok at *
        have HC := Lib.hid (fun w' (hb : Below w.heap.size w w') => circle_any v ps w' (validS_iff.1 hv) (h.below hb))
        have HZ := zeroArr
        obtain ⟨Z, hZ⟩ : ∃ Z, Z = (cirV (List.replicate 360 e0)).toArray := ⟨_, rfl⟩
        rw [← hZ] at HZ
        have hzs : Z.size = 360 := by rw [hZ]; simp [cirV_len]
        have hLl := circL_len ps
        obtain ⟨L, hL⟩ : ∃ L, L = circL ps := ⟨_, rfl⟩
        rw [← hL] at HC hLl HPS
        have HSI := Lib.hid sizeArr
        obtain ⟨C, hC⟩ : ∃ C, C = (cirV L).toArray := ⟨_, rfl⟩
        have hcs : C.size = 360 := by rw [hC]; simp [cirV_len, hLl]
        have hone : C.all (·.oneCell') = true := by rw [hC]; exact all_oneCell_toArray (cir_one L)
        rw [← hC] at HC
        have HCE := Lib.hid hC
        clear h hbx hv hL hZ hC hp he HPO HOK HZA HZP
        go_enter Try.func37, Try.ntmps37
        go_wp2_with (first
          | (go_at_call 20; refine HS.out.mono ?_; rintro e w1 ⟨rfl, hb⟩; have AC := Lib.hid (Below.next HB0.out hb); have s0 : w1.cell? ⟨w.heap.size, 0, none⟩ = some (.int .i64 f) := cell_below (by simp) hb; have s1 : w1.cell? ⟨w.heap.size, 1, none⟩ = some (.int .i64 t) := cell_below (by simp) hb; have s2 : w1.cell? ⟨w.heap.size, 2, none⟩ = some (.string x) := cell_below (by simp) hb; clear hb)
          | (go_at_call 25; refine (HAR.out _).mono ?_; rintro e w1 ⟨rfl, hb⟩; replace s0 := cell_below s0 hb; replace s1 := cell_below s1 hb; replace s2 := cell_below s2 hb; replace AC := Lib.hid (Below.next AC.out hb); clear hb)
          | (go_at_call 57; refine (HDK.out _).mono ?_; rintro e w1 ⟨rfl, hb⟩; replace s0 := cell_below s0 hb; replace s1 := cell_below s1 hb; replace s2 := cell_below s2 hb; replace AC := Lib.hid (Below.next AC.out hb); clear hb)
          | (go_at_call 16; refine (HVS.out _).mono ?_; rintro e w1 ⟨rfl, hb⟩; replace s0 := cell_below s0 hb; replace s1 := cell_below s1 hb; replace s2 := cell_below s2 hb; replace AC := Lib.hid (Below.next AC.out hb); clear hb)
          | (go_at_call 53; refine (HC.out _ AC.out).mono ?_; rintro e w2 ⟨rfl, hb⟩; refine Hid.out ?_))
        refine Lib.hid ?_
        have i0 := cell_below s0 hb
        have i1 := cell_below s1 hb
        have i2 := cell_below s2 hb
        have HB2 := Lib.hid (Below.next AC.out hb)
        have HR := Lib.hid (heap_alloc_last w2 (.cells Z 60))
        have hsz := HB2.out.size
        have hbw : Below w2.heap.size w2 ((w2.alloc (.cells Z 60)).setRow w2.heap.size C) := below_setRow ((Below.refl _ _).alloc (Nat.le_refl _) _) (Nat.le_refl _) C
        have HO4 := Lib.hid (show OwnA ((w2.alloc (.cells Z 60)).setRow w2.heap.size C) w2.heap.size L from OwnA.of_heap (by rw [setRow_heap _ _ Z C _ _ HR.out, HCE.out]) hLl)
        have HB4 := Lib.hid (Below.next HB2.out hbw)
        have y0 := cell_below i0 hbw
        have y1 := cell_below i1 hbw
        have y2 := cell_below i2 hbw
        clear hb HC AC i0 i1 i2 s0 s1 s2 hbw
        go_wp2_with (first
          | (go_at_call 60; refine (HPA.out w2.heap.size L _ HO4.out).mono ?_; rintro e w5 ⟨rfl, ho, hb⟩; refine Hid.out ?_)
          | (refine wpList_store_row rfl 60 _ _ rfl w2.heap.size C rfl rfl 60 Z HR.out (by rw [HSI.out, hcs]) (by rw [hzs, hcs]) hone ?_))
        refine Lib.hid ?_
        have HO5 := Lib.hid ho
        have HB5 := Lib.hid (HB4.out.trans (hb.mono hsz))
        have HSM := Lib.hid (simple_any w2.heap.size _ _ HO5.out)
        rw [← HPS.out] at HSM
        clear ho hb HPA y0 y1 y2
        go_wp2_with (go_at_call 61; refine HSM.out.mono ?_; rintro e w7 ⟨v7, rfl, ho, hb⟩; refine Hid.out ?_)
        refine Lib.hid ?_
        have HO7 := Lib.hid (ho.mono HB5.out.size)
        have HB7 := Lib.hid (Below.next HB5.out hb)
        have hfm := ho.form
        clear ho hb HSM
        by_cases hle : R.length ≤ 12
        · rw [if_pos hle] at H1 H2
          have hl2 : ¬ (12 : Int) < (R.length : Int) := by omega
          rcases hfm with ⟨rfl, hR⟩ | ⟨g, cap, rfl, _⟩
          · clear hR
            go_wp2_with (fail)
            go_ret2
            exact ⟨_, by rw [H2.out]; rfl, by rw [H1.out]; exact HO7.out, HB7.out⟩
          · go_wp2_with (fail)
            go_ret2
            exact ⟨_, by rw [H2.out]; rfl, by rw [H1.out]; exact HO7.out, HB7.out⟩
        · rw [if_neg hle] at H1 H2
          have hl2 : (12 : Int) < (R.length : Int) := by omega
          rcases hfm with ⟨rfl, hR⟩ | ⟨g, cap, rfl, _⟩
          · rw [hR] at hle; simp at hle
          · go_wp2_with (fail)
            go_ret2
            exact ownsc_no H1.out H2.out HB7.out
    · rw [hd] at HDK
      have hp : pntOk (f, t, x) = true := by rw [HPO.out, he, hd]; rfl
      clear hd
      have H1 := Lib.hid (show pntV ps (f, t, x) = if (pntS ps (f, t, x)).length ≤ 12 then pntS ps (f, t, x) else [] by unfold pntV; rw [hv, hp]; rfl)
      have H2 := Lib.hid (show pntC ps (f, t, x) = if (pntS ps (f, t, x)).length ≤ 12 then 0 else 5 by unfold pntC; rw [hv, hp]; rfl)
      have hsl : (pntS ps (f, t, x)).length ≤ 360 := simp_len _ _
      have HPS := Lib.hid (show pntS ps (f, t, x) = simpV (cF (paintK (circL ps) f x (arcS (f, t, x)))) false from rfl)
      have HEF := Lib.hid (show 0 ≤ f ∧ f ≤ 359 by
        have : endsB (f, t, x) = true := he
        simp only [endsB, Bool.and_eq_true, inD_iff] at this
        exact this.1)
      have HPA := Lib.hid (fun g L w h => paint_any g L f t x w h HEF.out)
      generalize pntS ps (f, t, x) = R at *
      generalize arcS (f, t, x) = y at *
      generalize okSec (f, t, x) = ok at *
      have HC := Lib.hid (fun w' (hb : Below w.heap.size w w') => circle_any v ps w' (validS_iff.1 hv) (h.below hb))
      have HZ := zeroArr
      obtain ⟨Z, hZ⟩ : ∃ Z, Z = (cirV (List.replicate 360 e0)).toArray := ⟨_, rfl⟩
      rw [← hZ] at HZ
      have hzs : Z.size = 360 := by rw [hZ]; simp [cirV_len]
      have hLl := circL_len ps
      obtain ⟨L, hL⟩ : ∃ L, L = circL ps := ⟨_, rfl⟩
      rw [← hL] at HC hLl HPS
      have HSI := Lib.hid sizeArr
      obtain ⟨C, hC⟩ : ∃ C, C = (cirV L).toArray := ⟨_, rfl⟩
      have hcs : C.size = 360 := by rw [hC]; simp [cirV_len, hLl]
      have hone : C.all (·.oneCell') = true := by rw [hC]; exact all_oneCell_toArray (cir_one L)
      rw [← hC] at HC
      have HCE := Lib.hid hC
      clear h hbx hv hL hZ hC hp he HPO HOK HZA HZP
      go_enter Try.func37, Try.ntmps37
      go_wp2_with (first
        | (go_at_call 20; refine HS.out.mono ?_; rintro e w1 ⟨rfl, hb⟩; have AC := Lib.hid (Below.next HB0.out hb); have s0 : w1.cell? ⟨w.heap.size, 0, none⟩ = some (.int .i64 f) := cell_below (by simp) hb; have s1 : w1.cell? ⟨w.heap.size, 1, none⟩ = some (.int .i64 t) := cell_below (by simp) hb; have s2 : w1.cell? ⟨w.heap.size, 2, none⟩ = some (.string x) := cell_below (by simp) hb; clear hb)
        | (go_at_call 25; refine (HAR.out _).mono ?_; rintro e w1 ⟨rfl, hb⟩; replace s0 := cell_below s0 hb; replace s1 := cell_below s1 hb; replace s2 := cell_below s2 hb; replace AC := Lib.hid (Below.next AC.out hb); clear hb)
        | (go_at_call 57; refine (HDK.out _).mono ?_; rintro e w1 ⟨rfl, hb⟩; replace s0 := cell_below s0 hb; replace s1 := cell_below s1 hb; replace s2 := cell_below s2 hb; replace AC := Lib.hid (Below.next AC.out hb); clear hb)
        | (go_at_call 16; refine (HVS.out _).mono ?_; rintro e w1 ⟨rfl, hb⟩; replace s0 := cell_below s0 hb; replace s1 := cell_below s1 hb; replace s2 := cell_below s2 hb; replace AC := Lib.hid (Below.next AC.out hb); clear hb)
        | (go_at_call 53; refine (HC.out _ AC.out).mono ?_; rintro e w2 ⟨rfl, hb⟩; refine Hid.out ?_))
      refine Lib.hid ?_
      have i0 := cell_below s0 hb
      have i1 := cell_below s1 hb
      have i2 := cell_below s2 hb
      have HB2 := Lib.hid (Below.next AC.out hb)
      have HR := Lib.hid (heap_alloc_last w2 (.cells Z 60))
      have hsz := HB2.out.size
      have hbw : Below w2.heap.size w2 ((w2.alloc (.cells Z 60)).setRow w2.heap.size C) := below_setRow ((Below.refl _ _).alloc (Nat.le_refl _) _) (Nat.le_refl _) C
      have HO4 := Lib.hid (show OwnA ((w2.alloc (.cells Z 60)).setRow w2.heap.size C) w2.heap.size L from OwnA.of_heap (by rw [setRow_heap _ _ Z C _ _ HR.out, HCE.out]) hLl)
      have HB4 := Lib.hid (Below.next HB2.out hbw)
      have y0 := cell_below i0 hbw
      have y1 := cell_below i1 hbw
      have y2 := cell_below i2 hbw
      clear hb HC AC i0 i1 i2 s0 s1 s2 hbw
      go_wp2_with (first
        | (go_at_call 60; refine (HPA.out w2.heap.size L _ HO4.out).mono ?_; rintro e w5 ⟨rfl, ho, hb⟩; refine Hid.out ?_)
        | (refine wpList_store_row rfl 60 _ _ rfl w2.heap.size C rfl rfl 60 Z HR.out (by rw [HSI.out, hcs]) (by rw [hzs, hcs]) hone ?_))
      refine Lib.hid ?_
      have HO5 := Lib.hid ho
      have HB5 := Lib.hid (HB4.out.trans (hb.mono hsz))
      have HSM := Lib.hid (simple_any w2.heap.size _ _ HO5.out)
      rw [← HPS.out] at HSM
      clear ho hb HPA y0 y1 y2
      go_wp2_with (go_at_call 61; refine HSM.out.mono ?_; rintro e w7 ⟨v7, rfl, ho, hb⟩; refine Hid.out ?_)
      refine Lib.hid ?_
      have HO7 := Lib.hid (ho.mono HB5.out.size)
      have HB7 := Lib.hid (Below.next HB5.out hb)
      have hfm := ho.form
      clear ho hb HSM
      by_cases hle : R.length ≤ 12
      · rw [if_pos hle] at H1 H2
        have hl2 : ¬ (12 : Int) < (R.length : Int) := by omega
        rcases hfm with ⟨rfl, hR⟩ | ⟨g, cap, rfl, _⟩
        · clear hR
          go_wp2_with (fail)
          go_ret2
          exact ⟨_, by rw [H2.out]; rfl, by rw [H1.out]; exact HO7.out, HB7.out⟩
        · go_wp2_with (fail)
          go_ret2
          exact ⟨_, by rw [H2.out]; rfl, by rw [H1.out]; exact HO7.out, HB7.out⟩
      · rw [if_neg hle] at H1 H2
        have hl2 : (12 : Int) < (R.length : Int) := by omega
        rcases hfm with ⟨rfl, hR⟩ | ⟨g, cap, rfl, _⟩
        · rw [hR] at hle; simp at hle
        · go_wp2_with (fail)
          go_ret2
          exact ownsc_no H1.out H2.out HB7.out
end Go.Proofs.Ytclbpjjnhfllkaa
