/- In which distance a loudness is heard: the model's. -/
import Derived.Test.YtbfhnfoaipaljaaDoorSonI
import Derived.Test.YtbfhnfoaipaljaaDoorBln
import Derived.Test.YtbfhnfoaipaljaaDoorClx
namespace Go.Proofs.YtbfhnfoaipaljaaDoor
open Go.ChangeShapes Go.WideShapes Go.ChangeAt Go.RowKit Pm

theorem swind_any (v : Int) (w : World) :
    Calls Tryd.prog 66 #[.int .i64 v] w fun e w' => e = .returned (.bool (inB (-3) 3 [v])) ∧ w = w' := by
  go_enter Tryd.func66, Tryd.ntmps66
  go_wp2_with (go_at_call 65; refine (in_any _ _ _ _).mono ?_; rintro e w' ⟨rfl, rfl⟩)
  go_ret
  exact ⟨rfl, rfl⟩
theorem clx2 {w0 w : World} {a0 a1 : Addr} {v0 v1 : Value} (h0 : w.cell? a0 = some v0) (h1 : w.cell? a1 = some v1) (hB : Below w0.heap.size w0 w) :
    ∃ S : World → Prop, (∀ w1 w2, S w1 → Below w1.heap.size w1 w2 → S w2) ∧ S w.drew ∧ (∀ p : Clx S, p.v.cell? a0 = some v0) ∧ (∀ p : Clx S, p.v.cell? a1 = some v1) ∧ ∀ p : Clx S, Below w0.heap.size w0 p.v :=
  ⟨fun w' => w'.cell? a0 = some v0 ∧ w'.cell? a1 = some v1 ∧ Below w0.heap.size w0 w', fun _ _ h hb => keep2 hb h, drew2 ⟨h0, h1, hB⟩, fun p => p.h.1, fun p => p.h.2.1, fun p => p.h.2.2⟩

set_option maxRecDepth 100000 in
set_option maxHeartbeats 1000000 in
theorem srange_0 (q v : Int) (w : World) (q0 : 60 ≤ q) (q1 : q < 80) (v0 : -3 ≤ v) (v1 : v ≤ 3) :
    Calls Tryd.prog 67 #[.int .i64 q, .int .i64 v] w fun e w' => e = .returned (.int .i64 (sndV q v)) ∧ Below w.heap.size w w' := by
  have hc : calmI q = blendV 60 50 80 200 q := by rw [← calm_eq]; unfold calmS; rw [if_pos (by omega)]
  obtain ⟨b0, b1⟩ := calm_bd (q := q) (by omega) (by omega)
  obtain ⟨p0, p1⟩ := snd_prod b0 b1 v0 v1
  have HB := fun w => below_eq (sblend_any 60 50 80 200 q w)
  have hV : sndV q v = calmI q * (4 + v) / 4 := by unfold sndV; exact Int.tdiv_eq_ediv_of_nonneg (by omega)
  rw [← hc] at HB
  have ew : IntKind.i64.wrap (calmI q * (4 + v)) = calmI q * (4 + v) := IntWalk.i64_in _ ⟨by omega, by omega⟩
  generalize calmI q = z at *
  have HC := Lib.hid HB
  have HV := Lib.hid hV
  have hk : (q - 60) / 20 = 0 := by omega
  clear HB hc hV
  go_enter Tryd.func67, Tryd.ntmps67
  go_wp2
  obtain ⟨S, hcl, hS0, k0, k1, kB⟩ := clx2 (w := w.alloc (.cells #[.int .i64 50, .int .i64 200, .int .i64 1000, .int .i64 4000, .int .i64 8000] 2)) (a0 := ⟨w.heap.size, 0, none⟩) (a1 := ⟨w.heap.size, 0 + 1, none⟩) (v0 := .int .i64 50) (v1 := .int .i64 200) (by simp) (by simp) (w0 := w) (by go_grown)
  have hne : Nonempty (Clx S) := ⟨⟨_, hS0⟩⟩
  refine wp_region_clx S (by kernel_rfl) (by kernel_rfl) hS0 ?_
  repeat (go_big_quiet_step ((go_at_call 94; exact Clx.call hcl _ (HC.out _))))
  refine wpQuiet_nil ?_
  intro _ hw'
  obtain ⟨p, rfl⟩ := hw'
  go_wp2_with (fail)
  go_ret
  exact ⟨ret_i (by rw [HV.out]), kB p⟩

set_option maxRecDepth 100000 in
set_option maxHeartbeats 1000000 in
theorem srange_1 (q v : Int) (w : World) (q0 : 80 ≤ q) (q1 : q < 100) (v0 : -3 ≤ v) (v1 : v ≤ 3) :
    Calls Tryd.prog 67 #[.int .i64 q, .int .i64 v] w fun e w' => e = .returned (.int .i64 (sndV q v)) ∧ Below w.heap.size w w' := by
  have hc : calmI q = blendV 80 200 100 1000 q := by rw [← calm_eq]; unfold calmS; rw [if_neg (by omega), if_pos (by omega)]
  obtain ⟨b0, b1⟩ := calm_bd (q := q) (by omega) (by omega)
  obtain ⟨p0, p1⟩ := snd_prod b0 b1 v0 v1
  have HB := fun w => below_eq (sblend_any 80 200 100 1000 q w)
  have hV : sndV q v = calmI q * (4 + v) / 4 := by unfold sndV; exact Int.tdiv_eq_ediv_of_nonneg (by omega)
  rw [← hc] at HB
  have ew : IntKind.i64.wrap (calmI q * (4 + v)) = calmI q * (4 + v) := IntWalk.i64_in _ ⟨by omega, by omega⟩
  generalize calmI q = z at *
  have HC := Lib.hid HB
  have HV := Lib.hid hV
  have hk : (q - 60) / 20 = 1 := by omega
  clear HB hc hV
  go_enter Tryd.func67, Tryd.ntmps67
  go_wp2
  obtain ⟨S, hcl, hS0, k0, k1, kB⟩ := clx2 (w := w.alloc (.cells #[.int .i64 50, .int .i64 200, .int .i64 1000, .int .i64 4000, .int .i64 8000] 2)) (a0 := ⟨w.heap.size, 1, none⟩) (a1 := ⟨w.heap.size, 1 + 1, none⟩) (v0 := .int .i64 200) (v1 := .int .i64 1000) (by simp) (by simp) (w0 := w) (by go_grown)
  have hne : Nonempty (Clx S) := ⟨⟨_, hS0⟩⟩
  refine wp_region_clx S (by kernel_rfl) (by kernel_rfl) hS0 ?_
  repeat (go_big_quiet_step ((go_at_call 94; exact Clx.call hcl _ (HC.out _))))
  refine wpQuiet_nil ?_
  intro _ hw'
  obtain ⟨p, rfl⟩ := hw'
  go_wp2_with (fail)
  go_ret
  exact ⟨ret_i (by rw [HV.out]), kB p⟩

set_option maxRecDepth 100000 in
set_option maxHeartbeats 1000000 in
theorem srange_2 (q v : Int) (w : World) (q0 : 100 ≤ q) (q1 : q < 120) (v0 : -3 ≤ v) (v1 : v ≤ 3) :
    Calls Tryd.prog 67 #[.int .i64 q, .int .i64 v] w fun e w' => e = .returned (.int .i64 (sndV q v)) ∧ Below w.heap.size w w' := by
  have hc : calmI q = blendV 100 1000 120 4000 q := by rw [← calm_eq]; unfold calmS; rw [if_neg (by omega), if_neg (by omega), if_pos (by omega)]
  obtain ⟨b0, b1⟩ := calm_bd (q := q) (by omega) (by omega)
  obtain ⟨p0, p1⟩ := snd_prod b0 b1 v0 v1
  have HB := fun w => below_eq (sblend_any 100 1000 120 4000 q w)
  have hV : sndV q v = calmI q * (4 + v) / 4 := by unfold sndV; exact Int.tdiv_eq_ediv_of_nonneg (by omega)
  rw [← hc] at HB
  have ew : IntKind.i64.wrap (calmI q * (4 + v)) = calmI q * (4 + v) := IntWalk.i64_in _ ⟨by omega, by omega⟩
  generalize calmI q = z at *
  have HC := Lib.hid HB
  have HV := Lib.hid hV
  have hk : (q - 60) / 20 = 2 := by omega
  clear HB hc hV
  go_enter Tryd.func67, Tryd.ntmps67
  go_wp2
  obtain ⟨S, hcl, hS0, k0, k1, kB⟩ := clx2 (w := w.alloc (.cells #[.int .i64 50, .int .i64 200, .int .i64 1000, .int .i64 4000, .int .i64 8000] 2)) (a0 := ⟨w.heap.size, 2, none⟩) (a1 := ⟨w.heap.size, 2 + 1, none⟩) (v0 := .int .i64 1000) (v1 := .int .i64 4000) (by simp) (by simp) (w0 := w) (by go_grown)
  have hne : Nonempty (Clx S) := ⟨⟨_, hS0⟩⟩
  refine wp_region_clx S (by kernel_rfl) (by kernel_rfl) hS0 ?_
  repeat (go_big_quiet_step ((go_at_call 94; exact Clx.call hcl _ (HC.out _))))
  refine wpQuiet_nil ?_
  intro _ hw'
  obtain ⟨p, rfl⟩ := hw'
  go_wp2_with (fail)
  go_ret
  exact ⟨ret_i (by rw [HV.out]), kB p⟩

set_option maxRecDepth 100000 in
set_option maxHeartbeats 1000000 in
theorem srange_3 (q v : Int) (w : World) (q0 : 120 ≤ q) (q1 : q < 140) (v0 : -3 ≤ v) (v1 : v ≤ 3) :
    Calls Tryd.prog 67 #[.int .i64 q, .int .i64 v] w fun e w' => e = .returned (.int .i64 (sndV q v)) ∧ Below w.heap.size w w' := by
  have hc : calmI q = blendV 120 4000 140 8000 q := by rw [← calm_eq]; unfold calmS; rw [if_neg (by omega), if_neg (by omega), if_neg (by omega)]
  obtain ⟨b0, b1⟩ := calm_bd (q := q) (by omega) (by omega)
  obtain ⟨p0, p1⟩ := snd_prod b0 b1 v0 v1
  have HB := fun w => below_eq (sblend_any 120 4000 140 8000 q w)
  have hV : sndV q v = calmI q * (4 + v) / 4 := by unfold sndV; exact Int.tdiv_eq_ediv_of_nonneg (by omega)
  rw [← hc] at HB
  have ew : IntKind.i64.wrap (calmI q * (4 + v)) = calmI q * (4 + v) := IntWalk.i64_in _ ⟨by omega, by omega⟩
  generalize calmI q = z at *
  have HC := Lib.hid HB
  have HV := Lib.hid hV
  have hk : (q - 60) / 20 = 3 := by omega
  clear HB hc hV
  go_enter Tryd.func67, Tryd.ntmps67
  go_wp2
  obtain ⟨S, hcl, hS0, k0, k1, kB⟩ := clx2 (w := w.alloc (.cells #[.int .i64 50, .int .i64 200, .int .i64 1000, .int .i64 4000, .int .i64 8000] 2)) (a0 := ⟨w.heap.size, 3, none⟩) (a1 := ⟨w.heap.size, 3 + 1, none⟩) (v0 := .int .i64 4000) (v1 := .int .i64 8000) (by simp) (by simp) (w0 := w) (by go_grown)
  have hne : Nonempty (Clx S) := ⟨⟨_, hS0⟩⟩
  refine wp_region_clx S (by kernel_rfl) (by kernel_rfl) hS0 ?_
  repeat (go_big_quiet_step ((go_at_call 94; exact Clx.call hcl _ (HC.out _))))
  refine wpQuiet_nil ?_
  intro _ hw'
  obtain ⟨p, rfl⟩ := hw'
  go_wp2_with (fail)
  go_ret
  exact ⟨ret_i (by rw [HV.out]), kB p⟩

set_option maxRecDepth 100000 in
set_option maxHeartbeats 1000000 in
theorem srange_4 (q v : Int) (w : World) (q0 : 140 ≤ q) (q1 : q ≤ 140) (v0 : -3 ≤ v) (v1 : v ≤ 3) :
    Calls Tryd.prog 67 #[.int .i64 q, .int .i64 v] w fun e w' => e = .returned (.int .i64 (sndV q v)) ∧ Below w.heap.size w w' := by
  have hc : calmI q = blendV 120 4000 140 8000 q := by rw [← calm_eq]; unfold calmS; rw [if_neg (by omega), if_neg (by omega), if_neg (by omega)]
  obtain ⟨b0, b1⟩ := calm_bd (q := q) (by omega) (by omega)
  obtain ⟨p0, p1⟩ := snd_prod b0 b1 v0 v1
  have HB := fun w => below_eq (sblend_any 120 4000 140 8000 q w)
  have hV : sndV q v = calmI q * (4 + v) / 4 := by unfold sndV; exact Int.tdiv_eq_ediv_of_nonneg (by omega)
  rw [← hc] at HB
  have ew : IntKind.i64.wrap (calmI q * (4 + v)) = calmI q * (4 + v) := IntWalk.i64_in _ ⟨by omega, by omega⟩
  generalize calmI q = z at *
  have HC := Lib.hid HB
  have HV := Lib.hid hV
  have hk : (q - 60) / 20 = 4 := by omega
  clear HB hc hV
  go_enter Tryd.func67, Tryd.ntmps67
  go_wp2
  obtain ⟨S, hcl, hS0, k0, k1, kB⟩ := clx2 (w := w.alloc (.cells #[.int .i64 50, .int .i64 200, .int .i64 1000, .int .i64 4000, .int .i64 8000] 2)) (a0 := ⟨w.heap.size, 3, none⟩) (a1 := ⟨w.heap.size, 3 + 1, none⟩) (v0 := .int .i64 4000) (v1 := .int .i64 8000) (by simp) (by simp) (w0 := w) (by go_grown)
  have hne : Nonempty (Clx S) := ⟨⟨_, hS0⟩⟩
  refine wp_region_clx S (by kernel_rfl) (by kernel_rfl) hS0 ?_
  repeat (go_big_quiet_step ((go_at_call 94; exact Clx.call hcl _ (HC.out _))))
  refine wpQuiet_nil ?_
  intro _ hw'
  obtain ⟨p, rfl⟩ := hw'
  go_wp2_with (fail)
  go_ret
  exact ⟨ret_i (by rw [HV.out]), kB p⟩

theorem srange_any (q v : Int) (w : World) (q0 : 60 ≤ q) (q1 : q ≤ 140) (v0 : -3 ≤ v) (v1 : v ≤ 3) :
    Calls Tryd.prog 67 #[.int .i64 q, .int .i64 v] w fun e w' => e = .returned (.int .i64 (sndV q v)) ∧ Below w.heap.size w w' := by
  by_cases h1 : q < 80
  · exact srange_0 q v w q0 h1 v0 v1
  by_cases h2 : q < 100
  · exact srange_1 q v w (by omega) h2 v0 v1
  by_cases h3 : q < 120
  · exact srange_2 q v w (by omega) h3 v0 v1
  by_cases h4 : q < 140
  · exact srange_3 q v w (by omega) h4 v0 v1
  · exact srange_4 q v w (by omega) q1 v0 v1

set_option maxHeartbeats 1000000 in
theorem ssoundrange_any (q v : Int) (w : World) :
    Calls Tryd.prog 33 #[.int .i64 q, .int .i64 v] w (RetF (if sndOk q v then sndV q v else 0) (if sndOk q v then 0 else 2) w) := by
  have HV := Lib.hid (fun w => swind_any v w)
  cases h1 : inB 60 140 [q]
  · have HQ := Lib.hid (fun w => h1 ▸ in_any q 60 140 w)
    rw [show sndOk q v = false by unfold sndOk fogPow; rw [h1]; rfl, if_neg (by simp), if_neg (by simp)]
    clear h1
    go_enter Tryd.func33, Tryd.ntmps33
    go_wp2_with (go_at_call 65; (refine (HQ.out _).mono ?_); rintro e w1 ⟨rfl, rfl⟩)
    go_ret2
    exact ⟨rfl, by go_grown⟩
  · have HQ := Lib.hid (fun w => h1 ▸ in_any q 60 140 w)
    obtain ⟨q0, q1⟩ := inb_yes h1
    cases h2 : inB (-3) 3 [v]
    · rw [show sndOk q v = false by unfold sndOk; rw [h2, Bool.and_false], if_neg (by simp), if_neg (by simp)]
      rw [h2] at HV
      clear h1 h2
      go_enter Tryd.func33, Tryd.ntmps33
      go_wp2_with (first
        | (go_at_call 65; (refine (HQ.out _).mono ?_); rintro e w1 ⟨rfl, rfl⟩)
        | (go_at_call 66; (refine (HV.out _).mono ?_); rintro e w2 ⟨rfl, rfl⟩))
      go_ret2
      exact ⟨rfl, by go_grown⟩
    · obtain ⟨v0, v1⟩ := inb_yes h2
      have HR := Lib.hid (fun w' => srange_any q v w' q0 q1 v0 v1)
      rw [show sndOk q v = true by unfold sndOk fogPow; rw [h1, h2]; rfl, if_pos rfl, if_pos rfl]
      rw [h2] at HV
      generalize sndV q v = z at *
      clear h1 h2 q0 q1 v0 v1
      go_enter Tryd.func33, Tryd.ntmps33
      go_wp2_with (first
        | (go_at_call 65; (refine (HQ.out _).mono ?_); rintro e w1 ⟨rfl, rfl⟩)
        | (go_at_call 66; (refine (HV.out _).mono ?_); rintro e w2 ⟨rfl, rfl⟩)
        | (go_at_call 67; (refine (HR.out _).mono ?_); rintro e w3 ⟨rfl, hb⟩))
      go_ret2
      exact ⟨rfl, hb⟩

end Go.Proofs.YtbfhnfoaipaljaaDoor
