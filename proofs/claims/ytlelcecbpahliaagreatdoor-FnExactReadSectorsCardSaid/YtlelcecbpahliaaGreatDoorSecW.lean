/- One sector: its degrees, its validity, the model's and the program's. -/
import Derived.Test.YtlelcecbpahliaaGreatDoorSecM
import Derived.Test.YtlelcecbpahliaaGreatDoorSctL
import Derived.Test.YtlelcecbpahliaaGreatDoorAng
import Derived.Test.YtlelcecbpahliaaGreatDoorKit
import Derived.Test.YtlelcecbpahliaaGreatDoorWithinB
import Derived.Deep.QuietTactic
import Derived.BigQuiet
namespace Go.Proofs.YtlelcecbpahliaaGreatDoor
open Go.ChangeShapes Go.WideShapes Go.ChangeAt Go.RowKit Pm

theorem inB_two_d (f t : Int) : inB 0 359 [f, t] = (inD f && inD t) := by simp [inB, inD]
theorem inB_one_d (f : Int) : inB 0 359 [f] = inD f := by simp [inB, inD]
theorem bd_wf {x : Int} (h : (Lit.int .i64 x).wf = true) : -9223372036854775808 ≤ x ∧ x ≤ 9223372036854775807 := by
  have := bounds_i64 h
  omega
theorem arc_ang {f t : Int} (h : f ≠ t) : arcV f t = ang (t - f) := by unfold arcV ang; rw [if_neg h]; omega

theorem arcof_any (f t : Int) (s : ByteArray) (w : World) :
    Calls Tryz.prog 103 #[.agg #[.int .i64 f, .int .i64 t, .string s]] w fun e w' => e = .returned (.int .i64 (arcS (f, t, s))) ∧ Below w.heap.size w w' := by
  have H2 := ints_two_at (w.alloc (.cells #[.int .i64 f, .int .i64 t, .string s] 52)) f t (w.heap.size + 1) (by simp)
  cases he : (inD f && inD t)
  · have HV := Lib.hid (show arcS (f, t, s) = 0 by unfold arcS endsB; rw [he]; rfl)
    have hin := (inB_two_d f t).trans he
    clear he
    go_enter Tryz.func103, Tryz.ntmps103
    go_wp2_with (go_at_call 47; refine (within_any _ _ _ _ _ H2).mono ?_; rintro e w' ⟨rfl, rfl⟩)
    go_ret
    exact ⟨ret_i HV.out.symm, by go_grown⟩
  · have hin := (inB_two_d f t).trans he
    simp only [Bool.and_eq_true, inD_iff] at he
    have HV := Lib.hid (show arcS (f, t, s) = arcV f t by unfold arcS endsB; rw [if_pos (by simp only [Bool.and_eq_true, inD_iff]; exact he)])
    obtain ⟨⟨f0, f1⟩, t0, t1⟩ := he
    by_cases h : f = t
    · have HV2 := Lib.hid (show arcV f t = 360 by unfold arcV; rw [if_pos h])
      have hb : (f == t) = true := by simp [h]
      clear h
      go_enter Tryz.func103, Tryz.ntmps103
      go_wp2_with (go_at_call 47; refine (within_any _ _ _ _ _ H2).mono ?_; rintro e w' ⟨rfl, rfl⟩)
      go_ret
      exact ⟨ret_i (by rw [HV.out, HV2.out]), by go_grown⟩
    · have HV2 := Lib.hid (arc_ang h)
      have hb : (f == t) = false := by simp [h]
      clear h
      go_enter Tryz.func103, Tryz.ntmps103
      go_wp2_with (first
        | (go_at_call 47; refine (within_any _ _ _ _ _ H2).mono ?_; rintro e w' ⟨rfl, rfl⟩)
        | (go_at_call 139; refine (angle_any _ _).mono ?_; rintro e w' ⟨rfl, rfl⟩))
      go_ret
      exact ⟨ret_i (by rw [HV.out, HV2.out]), by go_grown⟩

theorem validsec_any (f t : Int) (s : ByteArray) (w : World) :
    Calls Tryz.prog 104 #[.agg #[.int .i64 f, .int .i64 t, .string s]] w fun e w' => e = .returned (.bool (okSec (f, t, s))) ∧ Below w.heap.size w w' := by
  have HA := Lib.hid (fun w => arcof_any f t s w)
  have HP := arcS_pos (f, t, s)
  have HK := Lib.hid (show okSec (f, t, s) = (endsB (f, t, s) && colB s) from rfl)
  obtain ⟨z, hz⟩ : ∃ z, z = arcS (f, t, s) := ⟨_, rfl⟩
  rw [← hz] at HA HP
  clear hz
  have HB0 := Lib.hid (show Below w.heap.size w (w.alloc (.cells #[.int .i64 f, .int .i64 t, .string s] 52)) from (Below.refl _ _).alloc (Nat.le_refl _) _)
  cases he : endsB (f, t, s)
  · rw [he] at HP
    have hz0 : ¬ 0 < z := of_decide_eq_false HP
    have HV := Lib.hid (show okSec (f, t, s) = false by rw [HK.out, he]; rfl)
    clear HP he
    go_enter Tryz.func104, Tryz.ntmps104
    go_wp2_with (go_at_call 103; refine (HA.out _).mono ?_; rintro e w1 ⟨rfl, hb⟩; have AC := Lib.hid (Below.next HB0.out hb); clear hb)
    go_ret
    exact ⟨retB HV.out.symm, AC.out⟩
  · rw [he] at HP
    have hz0 : 0 < z := of_decide_eq_true HP
    have HV := Lib.hid (show okSec (f, t, s) = colB s by rw [HK.out, he]; rfl)
    clear HP he
    go_enter Tryz.func104, Tryz.ntmps104
    go_wp2_with (go_at_call 103; refine (HA.out _).mono ?_; rintro e w1 ⟨rfl, hb⟩; refine Hid.out ?_)
    refine Lib.hid ?_
    have AC := Lib.hid (Below.next HB0.out hb)
    have c2 : w1.cell? ⟨w.heap.size, 2, none⟩ = some (.string s) := cell_below (by simp) hb
    clear hb
    go_wp2_with (go_at_call 140; refine (hascol_any _ _).mono ?_; rintro e w2 ⟨rfl, rfl⟩)
    go_ret
    exact ⟨retB HV.out.symm, AC.out⟩

/-- A sector's three cells. -/
def SecAt (w : World) (b o : Nat) (p : Sec) : Prop := w.cell? ⟨b, o, none⟩ = some (.int .i64 p.1) ∧ w.cell? ⟨b, o + 1, none⟩ = some (.int .i64 p.2.1) ∧ w.cell? ⟨b, o + 2, none⟩ = some (.string p.2.2)
theorem SecAt.below {w w' : World} {b o : Nat} {p : Sec} (h : SecAt w b o p) (hb : Below w.heap.size w w') : SecAt w' b o p := ⟨cell_below h.1 hb, cell_below h.2.1 hb, cell_below h.2.2 hb⟩
theorem SecAt.drewN {w : World} {b o : Nat} {p : Sec} (h : SecAt w b o p) (m : Nat) : SecAt (w.drewN m) b o p := h.below (below_drewN (Below.refl _ _) m)
theorem sends_any (b o : Nat) (p : Sec) (w : World) (h : SecAt w b o p) :
    Calls Tryz.prog 130 #[.pointer (some ⟨b, o, none⟩)] w fun e w' => e = .returned (.bool (endsB p)) ∧ w = w' := by
  obtain ⟨f, t, s⟩ := p
  obtain ⟨c0, c1, _⟩ := h
  simp only at c0 c1
  have HK := Lib.hid (show endsB (f, t, s) = (inB 0 359 [f] && inB 0 359 [t]) by rw [inB_one_d, inB_one_d]; rfl)
  cases h1 : inB 0 359 [f]
  · rw [h1] at HK
    go_enter Tryz.func130, Tryz.ntmps130
    go_wp2_with (go_at_call 107; refine (in_any _ _ _ _).mono ?_; rintro e w' ⟨rfl, rfl⟩)
    go_ret
    exact ⟨retB HK.out.symm, rfl⟩
  · rw [h1] at HK
    go_enter Tryz.func130, Tryz.ntmps130
    go_wp2_with (go_at_call 107; refine (in_any _ _ _ _).mono ?_; rintro e w' ⟨rfl, rfl⟩)
    go_ret
    exact ⟨retB HK.out.symm, rfl⟩
theorem scolor_any (s : ByteArray) (w : World) :
    Calls Tryz.prog 131 #[.string s] w fun e w' => e = .returned (.bool (colB s)) ∧ w = w' := by
  cases h1 : (s.toList == [87])
  · cases h2 : (s.toList == [82])
    · cases h3 : (s.toList == [71])
      · have HV := Lib.hid (show colB s = (s.toList == [89]) by unfold colB; rw [h1, h2, h3]; rfl)
        cases h4 : (s.toList == [89])
        all_goals
          rw [h4] at HV
          go_enter Tryz.func131, Tryz.ntmps131
          go_wp2
          go_ret
          exact ⟨retB HV.out.symm, rfl⟩
      · have HV := Lib.hid (show colB s = true by unfold colB; rw [h1, h2, h3]; rfl)
        go_enter Tryz.func131, Tryz.ntmps131
        go_wp2
        go_ret
        exact ⟨retB HV.out.symm, rfl⟩
    · have HV := Lib.hid (show colB s = true by unfold colB; rw [h1, h2]; rfl)
      go_enter Tryz.func131, Tryz.ntmps131
      go_wp2
      go_ret
      exact ⟨retB HV.out.symm, rfl⟩
  · have HV := Lib.hid (show colB s = true by unfold colB; rw [h1]; rfl)
    go_enter Tryz.func131, Tryz.ntmps131
    go_wp2
    go_ret
    exact ⟨retB HV.out.symm, rfl⟩
theorem sone_any (b o : Nat) (p : Sec) (w : World) (h : SecAt w b o p) :
    Calls Tryz.prog 93 #[.pointer (some ⟨b, o, none⟩)] w fun e w' => e = .returned (.bool (okSec p)) ∧ w = w' := by
  have HE := Lib.hid (sends_any b o p w h)
  have c2 := h.2.2
  have HC := Lib.hid (fun w => scolor_any p.2.2 w)
  have HK := Lib.hid (show okSec p = (endsB p && colB p.2.2) from rfl)
  clear h
  generalize p.2.2 = s at *
  cases he : endsB p
  · rw [he] at HK HE
    clear he HC c2
    go_enter Tryz.func93, Tryz.ntmps93
    go_wp2_with (go_at_call 130; refine HE.out.mono ?_; rintro e w' ⟨rfl, rfl⟩)
    go_ret
    exact ⟨retB HK.out.symm, rfl⟩
  · rw [he] at HK HE
    clear he
    go_enter Tryz.func93, Tryz.ntmps93
    go_wp2_with (first
      | (go_at_call 130; refine HE.out.mono ?_; rintro e w' ⟨rfl, rfl⟩)
      | (go_at_call 131; refine (HC.out _).mono ?_; rintro e w' ⟨rfl, rfl⟩))
    go_ret
    exact ⟨retB HK.out.symm, rfl⟩
/-- An answer of a callee that reads only: the world but for draws. -/
def DrewV (v : Value) (w : World) (e : Ending) (w' : World) : Prop := e = .returned v ∧ ∃ m, w' = w.drewN m
theorem sarc_any (b o : Nat) (p : Sec) (w : World) (h : SecAt w b o p) (he : endsB p = true) :
    Calls Tryz.prog 94 #[.pointer (some ⟨b, o, none⟩)] w fun e w' => DrewV (.int .i64 (arcV p.1 p.2.1)) w e w' := by
  obtain ⟨f, t, s⟩ := p
  obtain ⟨c0, c1, _⟩ := h
  simp only [endsB, Bool.and_eq_true, inD_iff] at he
  obtain ⟨⟨f0, f1⟩, t0, t1⟩ := he
  simp only at c0 c1
  have hm : (t - f + 360).tmod 360 = (t - f + 360) % 360 := Int.tmod_eq_emod_of_nonneg (by omega)
  by_cases h : f = t
  · have HV := Lib.hid (show arcV f t = 360 by unfold arcV; rw [if_pos h])
    have h0 : (t - f + 360).tmod 360 = 0 := by rw [hm]; omega
    clear h hm
    go_enter Tryz.func94, Tryz.ntmps94
    go_wp2_with (fail)
    go_quiet (fail)
    go_wp2_with (fail)
    go_ret
    exact ⟨ret_i HV.out.symm, _, rfl⟩
  · obtain ⟨d, hd⟩ : ∃ d, d = (t - f + 360) % 360 := ⟨_, rfl⟩
    have HV := Lib.hid (show arcV f t = d by unfold arcV; rw [if_neg h, hd])
    have h0 : (d == 0) = false := by simp; omega
    have d0 : 0 < d := by omega
    have d1 : d < 360 := by omega
    rw [← hd] at hm
    clear h hd
    go_enter Tryz.func94, Tryz.ntmps94
    go_wp2_with (fail)
    go_quiet (fail)
    go_wp2_with (fail)
    go_ret
    exact ⟨ret_i HV.out.symm, _, rfl⟩
end Go.Proofs.YtlelcecbpahliaaGreatDoor
