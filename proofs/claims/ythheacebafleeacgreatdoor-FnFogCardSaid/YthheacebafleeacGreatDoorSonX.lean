/- In which distance a loudness is heard: the program's. In which distance a loudness is heard: the model's. -/
import Derived.Test.YthheacebafleeacGreatDoorSonM
import Derived.Test.YthheacebafleeacGreatDoorFogX
import Derived.Deep.RegionWith
import Derived.Test.YthheacebafleeacGreatDoorBln
import Derived.Test.YthheacebafleeacGreatDoorClx
namespace Go.Proofs.YthheacebafleeacGreatDoor
open Go.ChangeShapes Go.WideShapes Go.ChangeAt Go.RowKit Pm

theorem snd_lt {w : World} {b o : Nat} {v : Value} (h : w.cell? ⟨b, o, none⟩ = some v) : b < w.heap.size := by
  rcases Nat.lt_or_ge b w.heap.size with h' | h'
  · exact h'
  · simp [World.cell?, Array.getElem?_eq_none h'] at h

theorem iswind_any (v : Int) (w : World) :
    Calls Tryz.prog 37 #[.int .i64 v] w fun e w' => e = .returned (.bool (inB (-3) 3 [v])) ∧ Below w.heap.size w w' := by
  have HW := Lib.hid (fwithin v (-3) 3 _ rfl)
  generalize inB (-3) 3 [v] = b at *
  go_enter Tryz.func37, Tryz.ntmps37
  go_wp2_with (go_at_call 36; (refine (HW.out _ _ ?_).mono ?_); (· simp); rintro e w1 ⟨rfl, rfl⟩)
  go_ret
  exact ⟨rfl, by go_grown⟩

set_option maxRecDepth 100000 in
set_option maxHeartbeats 1000000 in
theorem sndrange_1 (q v : Int) (w : World) (hT : SndsAt w) (q0 : 60 ≤ q) (q1 : q ≤ 80) (v0 : -3 ≤ v) (v1 : v ≤ 3) :
    Calls Tryz.prog 40 #[.int .i64 q, .int .i64 v] w fun e w' => e = .returned (.int .i64 (sndV q v)) ∧ Below w.heap.size w w' := by
  have c0 : w.cell? ⟨1, 0, none⟩ = some (.int .i64 60) := (hT 0 (by decide)).1
  have c1 : w.cell? ⟨1, 1, none⟩ = some (.int .i64 50) := (hT 0 (by decide)).2
  have c2 : w.cell? ⟨1, 2, none⟩ = some (.int .i64 80) := (hT 1 (by decide)).1
  have c3 : w.cell? ⟨1, 3, none⟩ = some (.int .i64 200) := (hT 1 (by decide)).2
  have hg := snd_lt c0
  have x0 := fun (A B : Obj) => cell_below c0 ((((Below.refl _ _).alloc (Nat.le_refl _) A).alloc (by simp) B).drew)
  have x1 := fun (A B : Obj) => cell_below c1 ((((Below.refl _ _).alloc (Nat.le_refl _) A).alloc (by simp) B).drew)
  have x2 := fun (A B : Obj) => cell_below c2 ((((Below.refl _ _).alloc (Nat.le_refl _) A).alloc (by simp) B).drew)
  have x3 := fun (A B : Obj) => cell_below c3 ((((Below.refl _ _).alloc (Nat.le_refl _) A).alloc (by simp) B).drew)
  have hc : calmI q = blendV 60 50 80 200 q := by unfold calmI; rw [if_pos (by omega)]
  obtain ⟨b0, b1⟩ := calm_bd (q := q) (by omega) (by omega)
  obtain ⟨p0, p1⟩ := snd_prod b0 b1 v0 v1
  have HB := fun w => blend_any 60 50 80 200 q w
  have hV : sndV q v = calmI q * (4 + v) / 4 := by unfold sndV; exact Int.tdiv_eq_ediv_of_nonneg (by omega)
  rw [← hc] at HB
  have ew : IntKind.i64.wrap (calmI q * (4 + v)) = calmI q * (4 + v) := IntWalk.i64_in _ ⟨by omega, by omega⟩
  generalize calmI q = z at *
  have HC := Lib.hid HB
  clear HB
  have HV := Lib.hid hV
  clear hT hc hV
  go_enter Tryz.func40, Tryz.ntmps40
  go_wp2_with (fail)
  go_rounds 1
  go_region
  all_goals
    go_wp2_with (go_at_call 57; (refine (HC.out _).mono ?_); rintro e w1 ⟨rfl, hb⟩; have AC := Lib.hid (Below.next (a := w) (by go_grown) hb); clear hb)
    go_ret
    exact ⟨ret_i (by rw [HV.out]), AC.out⟩

set_option maxRecDepth 100000 in
set_option maxHeartbeats 1000000 in
theorem sndrange_2 (q v : Int) (w : World) (hT : SndsAt w) (q0 : 81 ≤ q) (q1 : q ≤ 100) (v0 : -3 ≤ v) (v1 : v ≤ 3) :
    Calls Tryz.prog 40 #[.int .i64 q, .int .i64 v] w fun e w' => e = .returned (.int .i64 (sndV q v)) ∧ Below w.heap.size w w' := by
  have c0 : w.cell? ⟨1, 0, none⟩ = some (.int .i64 60) := (hT 0 (by decide)).1
  have c1 : w.cell? ⟨1, 1, none⟩ = some (.int .i64 50) := (hT 0 (by decide)).2
  have c2 : w.cell? ⟨1, 2, none⟩ = some (.int .i64 80) := (hT 1 (by decide)).1
  have c3 : w.cell? ⟨1, 3, none⟩ = some (.int .i64 200) := (hT 1 (by decide)).2
  have c4 : w.cell? ⟨1, 4, none⟩ = some (.int .i64 100) := (hT 2 (by decide)).1
  have c5 : w.cell? ⟨1, 5, none⟩ = some (.int .i64 1000) := (hT 2 (by decide)).2
  have hg := snd_lt c0
  have x0 := fun (A B : Obj) => cell_below c0 ((((Below.refl _ _).alloc (Nat.le_refl _) A).alloc (by simp) B).drew)
  have x1 := fun (A B : Obj) => cell_below c1 ((((Below.refl _ _).alloc (Nat.le_refl _) A).alloc (by simp) B).drew)
  have x2 := fun (A B : Obj) => cell_below c2 ((((Below.refl _ _).alloc (Nat.le_refl _) A).alloc (by simp) B).drew)
  have x3 := fun (A B : Obj) => cell_below c3 ((((Below.refl _ _).alloc (Nat.le_refl _) A).alloc (by simp) B).drew)
  have x4 := fun (A B : Obj) => cell_below c4 ((((Below.refl _ _).alloc (Nat.le_refl _) A).alloc (by simp) B).drew)
  have x5 := fun (A B : Obj) => cell_below c5 ((((Below.refl _ _).alloc (Nat.le_refl _) A).alloc (by simp) B).drew)
  have hc : calmI q = blendV 80 200 100 1000 q := by unfold calmI; rw [if_neg (by omega), if_pos (by omega)]
  obtain ⟨b0, b1⟩ := calm_bd (q := q) (by omega) (by omega)
  obtain ⟨p0, p1⟩ := snd_prod b0 b1 v0 v1
  have HB := fun w => blend_any 80 200 100 1000 q w
  have hV : sndV q v = calmI q * (4 + v) / 4 := by unfold sndV; exact Int.tdiv_eq_ediv_of_nonneg (by omega)
  rw [← hc] at HB
  have ew : IntKind.i64.wrap (calmI q * (4 + v)) = calmI q * (4 + v) := IntWalk.i64_in _ ⟨by omega, by omega⟩
  generalize calmI q = z at *
  have HC := Lib.hid HB
  clear HB
  have HV := Lib.hid hV
  clear hT hc hV
  go_enter Tryz.func40, Tryz.ntmps40
  go_wp2_with (fail)
  go_rounds 2
  go_region
  all_goals
    go_wp2_with (go_at_call 57; (refine (HC.out _).mono ?_); rintro e w1 ⟨rfl, hb⟩; have AC := Lib.hid (Below.next (a := w) (by go_grown) hb); clear hb)
    go_ret
    exact ⟨ret_i (by rw [HV.out]), AC.out⟩

set_option maxRecDepth 100000 in
set_option maxHeartbeats 1000000 in
theorem sndrange_3 (q v : Int) (w : World) (hT : SndsAt w) (q0 : 101 ≤ q) (q1 : q ≤ 120) (v0 : -3 ≤ v) (v1 : v ≤ 3) :
    Calls Tryz.prog 40 #[.int .i64 q, .int .i64 v] w fun e w' => e = .returned (.int .i64 (sndV q v)) ∧ Below w.heap.size w w' := by
  have c0 : w.cell? ⟨1, 0, none⟩ = some (.int .i64 60) := (hT 0 (by decide)).1
  have c1 : w.cell? ⟨1, 1, none⟩ = some (.int .i64 50) := (hT 0 (by decide)).2
  have c2 : w.cell? ⟨1, 2, none⟩ = some (.int .i64 80) := (hT 1 (by decide)).1
  have c3 : w.cell? ⟨1, 3, none⟩ = some (.int .i64 200) := (hT 1 (by decide)).2
  have c4 : w.cell? ⟨1, 4, none⟩ = some (.int .i64 100) := (hT 2 (by decide)).1
  have c5 : w.cell? ⟨1, 5, none⟩ = some (.int .i64 1000) := (hT 2 (by decide)).2
  have c6 : w.cell? ⟨1, 6, none⟩ = some (.int .i64 120) := (hT 3 (by decide)).1
  have c7 : w.cell? ⟨1, 7, none⟩ = some (.int .i64 4000) := (hT 3 (by decide)).2
  have hg := snd_lt c0
  have x0 := fun (A B : Obj) => cell_below c0 ((((Below.refl _ _).alloc (Nat.le_refl _) A).alloc (by simp) B).drew)
  have x1 := fun (A B : Obj) => cell_below c1 ((((Below.refl _ _).alloc (Nat.le_refl _) A).alloc (by simp) B).drew)
  have x2 := fun (A B : Obj) => cell_below c2 ((((Below.refl _ _).alloc (Nat.le_refl _) A).alloc (by simp) B).drew)
  have x3 := fun (A B : Obj) => cell_below c3 ((((Below.refl _ _).alloc (Nat.le_refl _) A).alloc (by simp) B).drew)
  have x4 := fun (A B : Obj) => cell_below c4 ((((Below.refl _ _).alloc (Nat.le_refl _) A).alloc (by simp) B).drew)
  have x5 := fun (A B : Obj) => cell_below c5 ((((Below.refl _ _).alloc (Nat.le_refl _) A).alloc (by simp) B).drew)
  have x6 := fun (A B : Obj) => cell_below c6 ((((Below.refl _ _).alloc (Nat.le_refl _) A).alloc (by simp) B).drew)
  have x7 := fun (A B : Obj) => cell_below c7 ((((Below.refl _ _).alloc (Nat.le_refl _) A).alloc (by simp) B).drew)
  have hc : calmI q = blendV 100 1000 120 4000 q := by unfold calmI; rw [if_neg (by omega), if_neg (by omega), if_pos (by omega)]
  obtain ⟨b0, b1⟩ := calm_bd (q := q) (by omega) (by omega)
  obtain ⟨p0, p1⟩ := snd_prod b0 b1 v0 v1
  have HB := fun w => blend_any 100 1000 120 4000 q w
  have hV : sndV q v = calmI q * (4 + v) / 4 := by unfold sndV; exact Int.tdiv_eq_ediv_of_nonneg (by omega)
  rw [← hc] at HB
  have ew : IntKind.i64.wrap (calmI q * (4 + v)) = calmI q * (4 + v) := IntWalk.i64_in _ ⟨by omega, by omega⟩
  generalize calmI q = z at *
  have HC := Lib.hid HB
  clear HB
  have HV := Lib.hid hV
  clear hT hc hV
  go_enter Tryz.func40, Tryz.ntmps40
  go_wp2_with (fail)
  go_rounds 3
  go_region
  all_goals
    go_wp2_with (go_at_call 57; (refine (HC.out _).mono ?_); rintro e w1 ⟨rfl, hb⟩; have AC := Lib.hid (Below.next (a := w) (by go_grown) hb); clear hb)
    go_ret
    exact ⟨ret_i (by rw [HV.out]), AC.out⟩

set_option maxRecDepth 100000 in
set_option maxHeartbeats 1000000 in
theorem sndrange_4 (q v : Int) (w : World) (hT : SndsAt w) (q0 : 121 ≤ q) (q1 : q ≤ 140) (v0 : -3 ≤ v) (v1 : v ≤ 3) :
    Calls Tryz.prog 40 #[.int .i64 q, .int .i64 v] w fun e w' => e = .returned (.int .i64 (sndV q v)) ∧ Below w.heap.size w w' := by
  have c0 : w.cell? ⟨1, 0, none⟩ = some (.int .i64 60) := (hT 0 (by decide)).1
  have c1 : w.cell? ⟨1, 1, none⟩ = some (.int .i64 50) := (hT 0 (by decide)).2
  have c2 : w.cell? ⟨1, 2, none⟩ = some (.int .i64 80) := (hT 1 (by decide)).1
  have c3 : w.cell? ⟨1, 3, none⟩ = some (.int .i64 200) := (hT 1 (by decide)).2
  have c4 : w.cell? ⟨1, 4, none⟩ = some (.int .i64 100) := (hT 2 (by decide)).1
  have c5 : w.cell? ⟨1, 5, none⟩ = some (.int .i64 1000) := (hT 2 (by decide)).2
  have c6 : w.cell? ⟨1, 6, none⟩ = some (.int .i64 120) := (hT 3 (by decide)).1
  have c7 : w.cell? ⟨1, 7, none⟩ = some (.int .i64 4000) := (hT 3 (by decide)).2
  have c8 : w.cell? ⟨1, 8, none⟩ = some (.int .i64 140) := (hT 4 (by decide)).1
  have c9 : w.cell? ⟨1, 9, none⟩ = some (.int .i64 8000) := (hT 4 (by decide)).2
  have hg := snd_lt c0
  have x0 := fun (A B : Obj) => cell_below c0 ((((Below.refl _ _).alloc (Nat.le_refl _) A).alloc (by simp) B).drew)
  have x1 := fun (A B : Obj) => cell_below c1 ((((Below.refl _ _).alloc (Nat.le_refl _) A).alloc (by simp) B).drew)
  have x2 := fun (A B : Obj) => cell_below c2 ((((Below.refl _ _).alloc (Nat.le_refl _) A).alloc (by simp) B).drew)
  have x3 := fun (A B : Obj) => cell_below c3 ((((Below.refl _ _).alloc (Nat.le_refl _) A).alloc (by simp) B).drew)
  have x4 := fun (A B : Obj) => cell_below c4 ((((Below.refl _ _).alloc (Nat.le_refl _) A).alloc (by simp) B).drew)
  have x5 := fun (A B : Obj) => cell_below c5 ((((Below.refl _ _).alloc (Nat.le_refl _) A).alloc (by simp) B).drew)
  have x6 := fun (A B : Obj) => cell_below c6 ((((Below.refl _ _).alloc (Nat.le_refl _) A).alloc (by simp) B).drew)
  have x7 := fun (A B : Obj) => cell_below c7 ((((Below.refl _ _).alloc (Nat.le_refl _) A).alloc (by simp) B).drew)
  have x8 := fun (A B : Obj) => cell_below c8 ((((Below.refl _ _).alloc (Nat.le_refl _) A).alloc (by simp) B).drew)
  have x9 := fun (A B : Obj) => cell_below c9 ((((Below.refl _ _).alloc (Nat.le_refl _) A).alloc (by simp) B).drew)
  have hc : calmI q = blendV 120 4000 140 8000 q := by unfold calmI; rw [if_neg (by omega), if_neg (by omega), if_neg (by omega)]
  obtain ⟨b0, b1⟩ := calm_bd (q := q) (by omega) (by omega)
  obtain ⟨p0, p1⟩ := snd_prod b0 b1 v0 v1
  have HB := fun w => blend_any 120 4000 140 8000 q w
  have hV : sndV q v = calmI q * (4 + v) / 4 := by unfold sndV; exact Int.tdiv_eq_ediv_of_nonneg (by omega)
  rw [← hc] at HB
  have ew : IntKind.i64.wrap (calmI q * (4 + v)) = calmI q * (4 + v) := IntWalk.i64_in _ ⟨by omega, by omega⟩
  generalize calmI q = z at *
  have HC := Lib.hid HB
  clear HB
  have HV := Lib.hid hV
  clear hT hc hV
  go_enter Tryz.func40, Tryz.ntmps40
  go_wp2_with (fail)
  go_rounds 4
  go_region
  all_goals
    go_wp2_with (go_at_call 57; (refine (HC.out _).mono ?_); rintro e w1 ⟨rfl, hb⟩; have AC := Lib.hid (Below.next (a := w) (by go_grown) hb); clear hb)
    go_ret
    exact ⟨ret_i (by rw [HV.out]), AC.out⟩

theorem sndrange_any (q v : Int) (w : World) (hT : SndsAt w) (q0 : 60 ≤ q) (q1 : q ≤ 140) (v0 : -3 ≤ v) (v1 : v ≤ 3) :
    Calls Tryz.prog 40 #[.int .i64 q, .int .i64 v] w fun e w' => e = .returned (.int .i64 (sndV q v)) ∧ Below w.heap.size w w' := by
  by_cases h1 : q ≤ 80
  · exact sndrange_1 q v w hT q0 h1 v0 v1
  by_cases h2 : q ≤ 100
  · exact sndrange_2 q v w hT (by omega) h2 v0 v1
  by_cases h3 : q ≤ 120
  · exact sndrange_3 q v w hT (by omega) h3 v0 v1
  · exact sndrange_4 q v w hT (by omega) q1 v0 v1
/-- Two numbers are returned. -/
def RetF (a c : Int) (w : World) (e : Ending) (w' : World) : Prop := e = .returned (.tuple #[.int .i64 a, .int .i64 c]) ∧ Below w.heap.size w w'
theorem sndOk_yes {q v : Int} (h : sndOk q v = true) : (60 ≤ q ∧ q ≤ 140) ∧ -3 ≤ v ∧ v ≤ 3 := by
  simp only [sndOk, fogPow, Bool.and_eq_true] at h
  exact ⟨inb_yes h.1, inb_yes h.2⟩

set_option maxHeartbeats 1000000 in
theorem soundrange_any (q v : Int) (w : World) (hT : SndsAt w) :
    Calls Tryz.prog 13 #[.int .i64 q, .int .i64 v] w (RetF (if sndOk q v then sndV q v else 0) (if sndOk q v then 0 else 2) w) := by
  have HV := Lib.hid (fun w => iswind_any v w)
  cases h1 : inB 60 140 [q]
  · have HQ := Lib.hid (fwithin q 60 140 false h1)
    rw [show sndOk q v = false by unfold sndOk fogPow; rw [h1]; rfl, if_neg (by simp), if_neg (by simp)]
    clear h1 hT
    go_enter Tryz.func13, Tryz.ntmps13
    go_wp2_with (go_at_call 36; (refine (HQ.out _ _ ?_).mono ?_); (· simp); rintro e w1 ⟨rfl, rfl⟩)
    go_ret2
    exact ⟨rfl, by go_grown⟩
  · have HQ := Lib.hid (fwithin q 60 140 true h1)
    obtain ⟨q0, q1⟩ := inb_yes h1
    cases h2 : inB (-3) 3 [v]
    · rw [show sndOk q v = false by unfold sndOk; rw [h2, Bool.and_false], if_neg (by simp), if_neg (by simp)]
      rw [h2] at HV
      clear h1 h2 hT
      go_enter Tryz.func13, Tryz.ntmps13
      go_wp2_with (first
        | (go_at_call 36; (refine (HQ.out _ _ ?_).mono ?_); (· simp); rintro e w1 ⟨rfl, rfl⟩)
        | (go_at_call 37; (refine (HV.out _).mono ?_); rintro e w2 ⟨rfl, hb⟩; have AC := Lib.hid (Below.next (a := w) (by go_grown) hb); clear hb))
      go_ret2
      exact ⟨rfl, AC.out⟩
    · obtain ⟨v0, v1⟩ := inb_yes h2
      have HR := Lib.hid (fun w' (h : Below w.heap.size w w') => sndrange_any q v w' (hT.below h) q0 q1 v0 v1)
      rw [show sndOk q v = true by unfold sndOk fogPow; rw [h1, h2]; rfl, if_pos rfl, if_pos rfl]
      rw [h2] at HV
      generalize sndV q v = z at *
      clear h1 h2 hT q0 q1 v0 v1
      go_enter Tryz.func13, Tryz.ntmps13
      go_wp2_with (first
        | (go_at_call 36; (refine (HQ.out _ _ ?_).mono ?_); (· simp); rintro e w1 ⟨rfl, rfl⟩)
        | (go_at_call 37; (refine (HV.out _).mono ?_); rintro e w2 ⟨rfl, hb⟩; have AC := Lib.hid (Below.next (a := w) (by go_grown) hb); clear hb)
        | (go_at_call 40; (refine (HR.out _ AC.out).mono ?_); rintro e w3 ⟨rfl, hb⟩; have AC2 := Lib.hid (Below.next AC.out hb); clear hb))
      go_ret2
      exact ⟨rfl, AC2.out⟩

end Go.Proofs.YthheacebafleeacGreatDoor
namespace Go.Proofs.YthheacebafleeacGreatDoor
open Go.ChangeShapes Go.WideShapes Go.ChangeAt Go.RowKit Pm

theorem clx2 {w0 w : World} {a0 a1 : Addr} {v0 v1 : Value} (h0 : w.cell? a0 = some v0) (h1 : w.cell? a1 = some v1) (hB : Below w0.heap.size w0 w) :
    ∃ S : World → Prop, (∀ w1 w2, S w1 → Below w1.heap.size w1 w2 → S w2) ∧ S w.drew ∧ (∀ p : Clx S, p.v.cell? a0 = some v0) ∧ (∀ p : Clx S, p.v.cell? a1 = some v1) ∧ ∀ p : Clx S, Below w0.heap.size w0 p.v :=
  ⟨fun w' => w'.cell? a0 = some v0 ∧ w'.cell? a1 = some v1 ∧ Below w0.heap.size w0 w', fun _ _ h hb => keep2 hb h, drew2 ⟨h0, h1, hB⟩, fun p => p.h.1, fun p => p.h.2.1, fun p => p.h.2.2⟩








end Go.Proofs.YthheacebafleeacGreatDoor
