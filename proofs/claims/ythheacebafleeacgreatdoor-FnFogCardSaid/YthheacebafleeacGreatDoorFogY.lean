/- What is wrong with a fog signal; is it valid? The program's. What is wrong with a fog signal, at last; is it valid? The program's. -/
import Derived.Test.YthheacebafleeacGreatDoorFogX
import Derived.Deep.RegionWith
import Derived.Stop.IfaceNil
import Derived.BigQuiet
import Derived.Deep.QuietTactic
namespace Go.Proofs.YthheacebafleeacGreatDoor
open Go.ChangeShapes Go.WideShapes Go.ChangeAt Go.RowKit Pm

/-- A fog signal's value; that of one with its kind's row. -/
abbrev fogV (k b p q : Int) : Value := .agg #[.int .i64 k, .int .i64 b, .int .i64 p, .int .i64 q]
abbrev sndgV (k b p q : Int) (s : ByteArray) (z : Int) : Value := .agg #[.int .i64 k, .int .i64 b, .int .i64 p, .int .i64 q, .string s, .int .i64 z]

set_option maxRecDepth 100000 in
theorem sounding_any (k b p q : Int) (w : World) (hF : FogsAt w) :
    Calls Tryz.prog 18 #[fogV k b p q] w fun e w' => e = .returned (sndgV k b p q (fogNm k) (fogLen k)) ∧ Below w.heap.size w w' := by
  have HR := Lib.hid (fun w' (h : Below w.heap.size w w') => fogrow_any k w' (hF.below h))
  generalize fogNm k = s at *
  generalize fogLen k = z at *
  clear hF
  go_enter Tryz.func18, Tryz.ntmps18
  go_wp2_with (fail)
  go_region_with (go_at_call 42; (refine (HR.out _ (by go_grown)).mono ?_); rintro e w1 ⟨rfl, hb⟩; have c0 := cell_below (a := ⟨w.heap.size, 0, none⟩) (v := .int .i64 k) (by go_cell) hb; have c1 := cell_below (a := ⟨w.heap.size, 1, none⟩) (v := .int .i64 b) (by go_cell) hb; have c2 := cell_below (a := ⟨w.heap.size, 2, none⟩) (v := .int .i64 p) (by go_cell) hb; have c3 := cell_below (a := ⟨w.heap.size, 3, none⟩) (v := .int .i64 q) (by go_cell) hb; have r0 := cell_below (a := ⟨w.heap.size + 1, 0, none⟩) (v := .int .i64 0) (by go_cell) hb; have r1 := cell_below (a := ⟨w.heap.size + 1, 1, none⟩) (v := .int .i64 0) (by go_cell) hb; have r2 := cell_below (a := ⟨w.heap.size + 1, 2, none⟩) (v := .int .i64 0) (by go_cell) hb; have r3 := cell_below (a := ⟨w.heap.size + 1, 3, none⟩) (v := .int .i64 0) (by go_cell) hb; have r4 := cell_below (a := ⟨w.heap.size + 1, 4, none⟩) (v := .string ⟨#[]⟩) (by go_cell) hb; have r5 := cell_below (a := ⟨w.heap.size + 1, 5, none⟩) (v := .int .i64 0) (by go_cell) hb; have f0 := frozen_kept (a := ⟨w.heap.size + 1, 0, none⟩) hb (by go_simp) (by simp); have f1 := frozen_kept (a := ⟨w.heap.size + 1, 1, none⟩) hb (by go_simp) (by simp); have f2 := frozen_kept (a := ⟨w.heap.size + 1, 2, none⟩) hb (by go_simp) (by simp); have f3 := frozen_kept (a := ⟨w.heap.size + 1, 3, none⟩) hb (by go_simp) (by simp); have f4 := frozen_kept (a := ⟨w.heap.size + 1, 4, none⟩) hb (by go_simp) (by simp); have f5 := frozen_kept (a := ⟨w.heap.size + 1, 5, none⟩) hb (by go_simp) (by simp); have AC := Lib.hid (Below.next (a := w) (by go_grown) hb); clear hb)
  all_goals
    go_wp2
    refine bodyPost_ret (v := sndgV k b p q s z) (by simp [results, Tryz.results18, go_sem, *]) rfl ⟨rfl, ?_⟩
    iterate 6 (refine Below.setCell ?_ (Nat.le_succ _) _)
    exact AC.out

set_option maxRecDepth 100000 in
theorem step_any (k b p q : Int) (s : ByteArray) (z : Int) (w : World) (z0 : 0 ≤ z) (z1 : z ≤ 40) :
    Calls Tryz.prog 43 #[sndgV k b p q s z] w fun e w' => e = .returned (.int .i64 (2 * z)) ∧ Below w.heap.size w w' := by
  go_enter Tryz.func43, Tryz.ntmps43
  go_wp2
  go_ret
  exact ⟨rfl, by go_grown⟩

theorem blk_bd {b z : Int} (b0 : 1 ≤ b) (b1 : b ≤ 6) (z0 : 0 ≤ z) (z1 : z ≤ 40) : 0 ≤ b * (2 * z) ∧ b * (2 * z) ≤ 480 := by
  have : b = 1 ∨ b = 2 ∨ b = 3 ∨ b = 4 ∨ b = 5 ∨ b = 6 := by omega
  rcases this with rfl | rfl | rfl | rfl | rfl | rfl <;> omega
set_option maxRecDepth 100000 in
theorem least_any2 (k b p q : Int) (s : ByteArray) (z : Int) (w : World) (b0 : 1 ≤ b) (b1 : b ≤ 6) (z0 : 0 ≤ z) (z1 : z ≤ 40) :
    Calls Tryz.prog 60 #[sndgV k b p q s z] w fun e w' => e = .returned (.int .i64 (b * (2 * z))) ∧ Below w.heap.size w w' := by
  have HS := Lib.hid (fun w => step_any k b p q s z w z0 z1)
  obtain ⟨y0, y1⟩ := blk_bd b0 b1 z0 z1
  have ew : IntKind.i64.wrap (b * (2 * z)) = b * (2 * z) := IntWalk.i64_in _ ⟨by omega, by omega⟩
  generalize 2 * z = t at *
  go_enter Tryz.func60, Tryz.ntmps60
  go_wp2_with (fail)
  go_region_with (go_at_call 43; (refine (HS.out _).mono ?_); rintro e w1 ⟨rfl, hb⟩; have c1 := cell_below (a := ⟨w.heap.size, 1, none⟩) (v := .int .i64 b) (by go_cell) hb; have AC := Lib.hid (Below.next (a := w) (by go_grown) hb); clear hb)
  all_goals
    go_wp2
    go_ret
    exact ⟨rfl, AC.out⟩

theorem fwithin_at (z lo hi : Int) (b : Bool) (h : inB lo hi [z] = b) (w' : World) (n : Nat) (hc : w'.cell? ⟨n, 0, none⟩ = some (.int .i64 z)) : Calls Tryz.prog 36 #[.int .i64 lo, .int .i64 hi, .slice (some ⟨n, 0, none⟩) 1 1] w' (fun e w'' => e = .returned (.bool b) ∧ w' = w'') := by
  subst h
  exact within_any lo hi _ [z] _ (.inr ⟨n, 0, 1, rfl, by simp, fun i hi => by obtain rfl : i = 0 := by { simp at hi; omega }; exact hc⟩)

set_option maxRecDepth 100000 in
set_option maxHeartbeats 1000000 in
theorem fault_kind (k b p q : Int) (s : ByteArray) (z : Int) (ea ep eq : Addr) (w : World) (hE : FogErrs ea ep eq w) (hz : z = 0) :
    Calls Tryz.prog 45 #[sndgV k b p q s z] w fun e w' => e = .returned (errV ea) ∧ Below w.heap.size w w' := by
  have e1 := cell_below hE.1 (show Below w.heap.size w (w.alloc (.cells #[.int .i64 k, .int .i64 b, .int .i64 p, .int .i64 q, .string s, .int .i64 z] 48)) from by go_grown)
  unfold errV at *
  have h0 : (z == 0) = true := by rw [hz]; rfl
  clear hz hE
  go_enter Tryz.func45, Tryz.ntmps45
  go_wp2
  go_ret
  exact ⟨rfl, by go_grown⟩

set_option maxRecDepth 100000 in
set_option maxHeartbeats 1000000 in
theorem fault_blasts (k b p q : Int) (s : ByteArray) (z : Int) (ea ep eq : Addr) (w : World) (hE : FogErrs ea ep eq w) (hz : z ≠ 0) (hb6 : inB 1 6 [b] = false) :
    Calls Tryz.prog 45 #[sndgV k b p q s z] w fun e w' => e = .returned (errV ea) ∧ Below w.heap.size w w' := by
  have HE := Lib.hid (fun w1 (h : Below w.heap.size w w1) => (hE.below h).1)
  unfold errV at *
  have h0 : (z == 0) = false := by rw [beq_eq_false_iff_ne]; exact hz
  have HW := Lib.hid (fwithin b 1 6 false hb6)
  clear hz hE hb6
  go_enter Tryz.func45, Tryz.ntmps45
  go_wp2_with (go_at_call 36; (refine (HW.out _ _ ?_).mono ?_); (· simp); rintro e w1 ⟨rfl, hw1⟩; refine Hid.out ?_)
  refine Lib.hid ?_
  have hb : Below w.heap.size w w1 := by rw [← hw1]; go_grown
  have e1 := HE.out w1 hb
  have HB := Lib.hid hb
  clear hb hw1
  go_wp2
  go_ret
  exact ⟨rfl, HB.out⟩

theorem lt_of_cell {w : World} {a : Addr} {v : Value} (h : w.cell? a = some v) : a.block < w.heap.size := by
  rcases Nat.lt_or_ge a.block w.heap.size with h' | h'
  · exact h'
  · simp [World.cell?, Array.getElem?_eq_none h'] at h

set_option maxRecDepth 100000 in
set_option maxHeartbeats 1000000 in
theorem fault_period (k b p q : Int) (s : ByteArray) (z : Int) (ea ep eq : Addr) (w : World) (hE : FogErrs ea ep eq w) (hz : z ≠ 0) (z0 : 0 ≤ z) (z1 : z ≤ 40) (hb6 : inB 1 6 [b] = true) (hp : inB (b * (2 * z)) 1200 [p] = false) :
    Calls Tryz.prog 45 #[sndgV k b p q s z] w fun e w' => e = .returned (errV ep) ∧ Below w.heap.size w w' := by
  have HE := Lib.hid (fun w1 (h : Below w.heap.size w w1) => hE.below h)
  unfold errV at *
  have h0 : (z == 0) = false := by rw [beq_eq_false_iff_ne]; exact hz
  obtain ⟨b0, b1⟩ := inb_yes hb6
  have HL := Lib.hid (fun w => least_any2 k b p q s z w b0 b1 z0 z1)
  have HW := Lib.hid (fwithin b 1 6 true hb6)
  have HP := Lib.hid (fwithin p (b * (2 * z)) 1200 false hp)
  have HI := Lib.hid (fwithin_at p (b * (2 * z)) 1200 false hp)
  obtain ⟨y0, y1⟩ := blk_bd b0 b1 z0 z1
  obtain ⟨l, el⟩ : ∃ l, l = b * (2 * z) := ⟨_, rfl⟩
  rw [← el] at HL HP HI hp
  clear hz hE hb6 b0 b1 z0 z1 y0 y1 el
  go_enter Tryz.func45, Tryz.ntmps45
  go_wp2_with (go_at_call 36; (refine (HW.out _ _ ?_).mono ?_); (· simp); rintro e w1 ⟨rfl, hw1⟩; refine Hid.out ?_)
  refine Lib.hid ?_
  have hb : Below w.heap.size w w1 := by rw [← hw1]; go_grown
  have c0 : w1.cell? ⟨w.heap.size, 0, none⟩ = some (.int .i64 k) := by rw [← hw1]; clear hw1; go_cell
  have c1 : w1.cell? ⟨w.heap.size, 1, none⟩ = some (.int .i64 b) := by rw [← hw1]; clear hw1; go_cell
  have c2 : w1.cell? ⟨w.heap.size, 2, none⟩ = some (.int .i64 p) := by rw [← hw1]; clear hw1; go_cell
  have c3 : w1.cell? ⟨w.heap.size, 3, none⟩ = some (.int .i64 q) := by rw [← hw1]; clear hw1; go_cell
  have c4 : w1.cell? ⟨w.heap.size, 4, none⟩ = some (.string s) := by rw [← hw1]; clear hw1; go_cell
  have c5 : w1.cell? ⟨w.heap.size, 5, none⟩ = some (.int .i64 z) := by rw [← hw1]; clear hw1; go_cell
  have HB1 := Lib.hid hb
  have hsz : w.heap.size < w1.heap.size := by rw [← hw1]; clear hw1; simp; omega
  clear hb hw1
  go_wp2_with (fail)
  go_region_with (first | (go_at_call 60; (with_reducible refine (HL.out _).mono ?_); rintro e w2 ⟨rfl, hb⟩; have c0 := cell_below (a := ⟨w.heap.size, 0, none⟩) (v := .int .i64 k) (by first | assumption | go_cell) hb; have c1 := cell_below (a := ⟨w.heap.size, 1, none⟩) (v := .int .i64 b) (by first | assumption | go_cell) hb; have c2 := cell_below (a := ⟨w.heap.size, 2, none⟩) (v := .int .i64 p) (by first | assumption | go_cell) hb; have c3 := cell_below (a := ⟨w.heap.size, 3, none⟩) (v := .int .i64 q) (by first | assumption | go_cell) hb; have c4 := cell_below (a := ⟨w.heap.size, 4, none⟩) (v := .string s) (by first | assumption | go_cell) hb; have c5 := cell_below (a := ⟨w.heap.size, 5, none⟩) (v := .int .i64 z) (by first | assumption | go_cell) hb; have s0 := fun h => cell_below (a := ⟨w1.heap.size, 0, none⟩) (v := .int .i64 p) h hb; have ac := Below.next HB1.out (Below.next (a := w1) (by go_grown) hb); have E := HE.out _ ac; have e2 : w2.cell? ⟨3, 0, none⟩ = some (.iface 137 (.pointer (some ep))) := E.2.1; have e3 : w2.cell? ⟨4, 0, none⟩ = some (.iface 137 (.pointer (some eq))) := E.2.2.1; have hz2 := lt_of_cell e2; have hz3 := lt_of_cell e3; simp only at hz2 hz3; have hs2 := ac.size; have hs0 := lt_of_cell c0; simp only at hs0; clear E hb) | (go_at_call 36; (first | ((with_reducible refine (HP.out _ _ ?_).mono ?_); (· simp); rintro e w3 ⟨rfl, rfl⟩) | ((with_reducible refine (HI.out _ _ ?_).mono ?_); (· exact s0 (by go_cell)); rintro e w3 ⟨rfl, rfl⟩))))
  all_goals
    clear HL HP HI HW
    go_wp2
    go_ret
    exact ⟨rfl, by go_grown⟩

end Go.Proofs.YthheacebafleeacGreatDoor
namespace Go.Proofs.YthheacebafleeacGreatDoor
open Go.ChangeShapes Go.WideShapes Go.ChangeAt Go.RowKit Pm

set_option maxRecDepth 100000 in
set_option maxHeartbeats 1000000 in
theorem fault_power (k b p q : Int) (s : ByteArray) (z : Int) (ea ep eq : Addr) (w : World) (hE : FogErrs ea ep eq w) (hz : z ≠ 0) (z0 : 0 ≤ z) (z1 : z ≤ 40) (hb6 : inB 1 6 [b] = true) (hp : inB (b * (2 * z)) 1200 [p] = true) (hq : inB 60 140 [q] = false) :
    Calls Tryz.prog 45 #[sndgV k b p q s z] w fun e w' => e = .returned (errV eq) ∧ Below w.heap.size w w' := by
  have HE := Lib.hid (fun w1 (h : Below w.heap.size w w1) => hE.below h)
  unfold errV at *
  have h0 : (z == 0) = false := by rw [beq_eq_false_iff_ne]; exact hz
  obtain ⟨b0, b1⟩ := inb_yes hb6
  have HL := Lib.hid (fun w => least_any2 k b p q s z w b0 b1 z0 z1)
  have HW := Lib.hid (fwithin b 1 6 true hb6)
  have HP := Lib.hid (fwithin p (b * (2 * z)) 1200 true hp)
  have HI := Lib.hid (fwithin_at p (b * (2 * z)) 1200 true hp)
  have HQ := Lib.hid (fwithin q 60 140 false hq)
  obtain ⟨y0, y1⟩ := blk_bd b0 b1 z0 z1
  obtain ⟨l, el⟩ : ∃ l, l = b * (2 * z) := ⟨_, rfl⟩
  rw [← el] at HL HP HI hp
  clear hz hE hb6 b0 b1 z0 z1 y0 y1 el hq
  go_enter Tryz.func45, Tryz.ntmps45
  go_wp2_with (go_at_call 36; (refine (HW.out _ _ ?_).mono ?_); (· simp); rintro e w1 ⟨rfl, hw1⟩; refine Hid.out ?_)
  refine Lib.hid ?_
  have hb : Below w.heap.size w w1 := by rw [← hw1]; go_grown
  have c0 : w1.cell? ⟨w.heap.size, 0, none⟩ = some (.int .i64 k) := by rw [← hw1]; clear hw1; go_cell
  have c1 : w1.cell? ⟨w.heap.size, 1, none⟩ = some (.int .i64 b) := by rw [← hw1]; clear hw1; go_cell
  have c2 : w1.cell? ⟨w.heap.size, 2, none⟩ = some (.int .i64 p) := by rw [← hw1]; clear hw1; go_cell
  have c3 : w1.cell? ⟨w.heap.size, 3, none⟩ = some (.int .i64 q) := by rw [← hw1]; clear hw1; go_cell
  have c4 : w1.cell? ⟨w.heap.size, 4, none⟩ = some (.string s) := by rw [← hw1]; clear hw1; go_cell
  have c5 : w1.cell? ⟨w.heap.size, 5, none⟩ = some (.int .i64 z) := by rw [← hw1]; clear hw1; go_cell
  have HB1 := Lib.hid hb
  have hsz : w.heap.size < w1.heap.size := by rw [← hw1]; clear hw1; simp; omega
  clear hb hw1
  go_wp2_with (fail)
  go_region_with (first | (go_at_call 60; (with_reducible refine (HL.out _).mono ?_); rintro e w2 ⟨rfl, hb⟩; have c0 := cell_below (a := ⟨w.heap.size, 0, none⟩) (v := .int .i64 k) (by first | assumption | go_cell) hb; have c1 := cell_below (a := ⟨w.heap.size, 1, none⟩) (v := .int .i64 b) (by first | assumption | go_cell) hb; have c2 := cell_below (a := ⟨w.heap.size, 2, none⟩) (v := .int .i64 p) (by first | assumption | go_cell) hb; have c3 := cell_below (a := ⟨w.heap.size, 3, none⟩) (v := .int .i64 q) (by first | assumption | go_cell) hb; have c4 := cell_below (a := ⟨w.heap.size, 4, none⟩) (v := .string s) (by first | assumption | go_cell) hb; have c5 := cell_below (a := ⟨w.heap.size, 5, none⟩) (v := .int .i64 z) (by first | assumption | go_cell) hb; have s0 := fun h => cell_below (a := ⟨w1.heap.size, 0, none⟩) (v := .int .i64 p) h hb; have ac := Below.next HB1.out (Below.next (a := w1) (by go_grown) hb); have E := HE.out _ ac; have e2 : w2.cell? ⟨3, 0, none⟩ = some (.iface 137 (.pointer (some ep))) := E.2.1; have e3 : w2.cell? ⟨4, 0, none⟩ = some (.iface 137 (.pointer (some eq))) := E.2.2.1; have hz2 := lt_of_cell e2; have hz3 := lt_of_cell e3; simp only at hz2 hz3; have hs2 := ac.size; have hs0 := lt_of_cell c0; simp only at hs0; clear E hb) | (go_at_call 36; (first | ((with_reducible refine (HP.out _ _ ?_).mono ?_); (· simp); rintro e w3 ⟨rfl, rfl⟩) | ((with_reducible refine (HI.out _ _ ?_).mono ?_); (· exact s0 (by go_cell)); rintro e w3 ⟨rfl, rfl⟩))))
  all_goals
    clear HL HP HI HW
    go_wp2_with (go_at_call 36; (with_reducible refine (HQ.out _ _ ?_).mono ?_); (· simp); rintro e w4 ⟨rfl, rfl⟩)
    go_ret
    exact ⟨rfl, by go_grown⟩

set_option maxRecDepth 100000 in
set_option maxHeartbeats 1000000 in
theorem fault_none (k b p q : Int) (s : ByteArray) (z : Int) (ea ep eq : Addr) (w : World) (hE : FogErrs ea ep eq w) (hz : z ≠ 0) (z0 : 0 ≤ z) (z1 : z ≤ 40) (hb6 : inB 1 6 [b] = true) (hp : inB (b * (2 * z)) 1200 [p] = true) (hq : inB 60 140 [q] = true) :
    Calls Tryz.prog 45 #[sndgV k b p q s z] w fun e w' => e = .returned .nilIface ∧ Below w.heap.size w w' := by
  have HE := Lib.hid (fun w1 (h : Below w.heap.size w w1) => hE.below h)
  unfold errV at *
  have h0 : (z == 0) = false := by rw [beq_eq_false_iff_ne]; exact hz
  obtain ⟨b0, b1⟩ := inb_yes hb6
  have HL := Lib.hid (fun w => least_any2 k b p q s z w b0 b1 z0 z1)
  have HW := Lib.hid (fwithin b 1 6 true hb6)
  have HP := Lib.hid (fwithin p (b * (2 * z)) 1200 true hp)
  have HI := Lib.hid (fwithin_at p (b * (2 * z)) 1200 true hp)
  have HQ := Lib.hid (fwithin q 60 140 true hq)
  obtain ⟨y0, y1⟩ := blk_bd b0 b1 z0 z1
  obtain ⟨l, el⟩ : ∃ l, l = b * (2 * z) := ⟨_, rfl⟩
  rw [← el] at HL HP HI hp
  clear hz hE hb6 b0 b1 z0 z1 y0 y1 el hq
  go_enter Tryz.func45, Tryz.ntmps45
  go_wp2_with (go_at_call 36; (refine (HW.out _ _ ?_).mono ?_); (· simp); rintro e w1 ⟨rfl, hw1⟩; refine Hid.out ?_)
  refine Lib.hid ?_
  have hb : Below w.heap.size w w1 := by rw [← hw1]; go_grown
  have c0 : w1.cell? ⟨w.heap.size, 0, none⟩ = some (.int .i64 k) := by rw [← hw1]; clear hw1; go_cell
  have c1 : w1.cell? ⟨w.heap.size, 1, none⟩ = some (.int .i64 b) := by rw [← hw1]; clear hw1; go_cell
  have c2 : w1.cell? ⟨w.heap.size, 2, none⟩ = some (.int .i64 p) := by rw [← hw1]; clear hw1; go_cell
  have c3 : w1.cell? ⟨w.heap.size, 3, none⟩ = some (.int .i64 q) := by rw [← hw1]; clear hw1; go_cell
  have c4 : w1.cell? ⟨w.heap.size, 4, none⟩ = some (.string s) := by rw [← hw1]; clear hw1; go_cell
  have c5 : w1.cell? ⟨w.heap.size, 5, none⟩ = some (.int .i64 z) := by rw [← hw1]; clear hw1; go_cell
  have HB1 := Lib.hid hb
  have hsz : w.heap.size < w1.heap.size := by rw [← hw1]; clear hw1; simp; omega
  clear hb hw1
  go_wp2_with (fail)
  go_region_with (first | (go_at_call 60; (with_reducible refine (HL.out _).mono ?_); rintro e w2 ⟨rfl, hb⟩; have c0 := cell_below (a := ⟨w.heap.size, 0, none⟩) (v := .int .i64 k) (by first | assumption | go_cell) hb; have c1 := cell_below (a := ⟨w.heap.size, 1, none⟩) (v := .int .i64 b) (by first | assumption | go_cell) hb; have c2 := cell_below (a := ⟨w.heap.size, 2, none⟩) (v := .int .i64 p) (by first | assumption | go_cell) hb; have c3 := cell_below (a := ⟨w.heap.size, 3, none⟩) (v := .int .i64 q) (by first | assumption | go_cell) hb; have c4 := cell_below (a := ⟨w.heap.size, 4, none⟩) (v := .string s) (by first | assumption | go_cell) hb; have c5 := cell_below (a := ⟨w.heap.size, 5, none⟩) (v := .int .i64 z) (by first | assumption | go_cell) hb; have s0 := fun h => cell_below (a := ⟨w1.heap.size, 0, none⟩) (v := .int .i64 p) h hb; have ac := Below.next HB1.out (Below.next (a := w1) (by go_grown) hb); have E := HE.out _ ac; have e2 : w2.cell? ⟨3, 0, none⟩ = some (.iface 137 (.pointer (some ep))) := E.2.1; have e3 : w2.cell? ⟨4, 0, none⟩ = some (.iface 137 (.pointer (some eq))) := E.2.2.1; have hz2 := lt_of_cell e2; have hz3 := lt_of_cell e3; simp only at hz2 hz3; have hs2 := ac.size; have hs0 := lt_of_cell c0; simp only at hs0; clear E hb) | (go_at_call 36; (first | ((with_reducible refine (HP.out _ _ ?_).mono ?_); (· simp); rintro e w3 ⟨rfl, rfl⟩) | ((with_reducible refine (HI.out _ _ ?_).mono ?_); (· exact s0 (by go_cell)); rintro e w3 ⟨rfl, rfl⟩))))
  all_goals
    clear HL HP HI HW
    go_wp2_with (go_at_call 36; (with_reducible refine (HQ.out _ _ ?_).mono ?_); (· simp); rintro e w4 ⟨rfl, rfl⟩)
    go_ret
    exact ⟨rfl, by go_grown⟩

/-- What is wrong with a fog signal. -/
def faultV (k b p q : Int) (ea ep eq : Addr) : Value := if fogShape k b then (if fogPer k b p then (if fogPow q then .nilIface else errV eq) else errV ep) else errV ea
theorem fault_any (k b p q : Int) (ea ep eq : Addr) (w : World) (hE : FogErrs ea ep eq w) :
    Calls Tryz.prog 45 #[sndgV k b p q (fogNm k) (fogLen k)] w fun e w' => e = .returned (faultV k b p q ea ep eq) ∧ Below w.heap.size w w' := by
  have hz := fogLen_zero k
  obtain ⟨z0, z1⟩ := fogLen_bd k
  unfold faultV fogShape
  cases h1 : inB 1 4 [k]
  · exact fault_kind k b p q _ _ ea ep eq w hE (fogLen_out h1)
  have hne : fogLen k ≠ 0 := by have := fogLen_in h1; omega
  cases h2 : inB 1 6 [b]
  · exact fault_blasts k b p q _ _ ea ep eq w hE hne h2
  unfold fogPer
  rw [← step_least]
  cases h3 : inB (b * (2 * fogLen k)) 1200 [p]
  · exact fault_period k b p q _ _ ea ep eq w hE hne z0 z1 h2 h3
  unfold fogPow
  cases h4 : inB 60 140 [q]
  · exact fault_power k b p q _ _ ea ep eq w hE hne z0 z1 h2 h3 h4
  · exact fault_none k b p q _ _ ea ep eq w hE hne z0 z1 h2 h3 h4

set_option maxRecDepth 100000 in
theorem validfog_any (k b p q : Int) (ea ep eq : Addr) (w : World) (hF : FogsAt w) (hE : FogErrs ea ep eq w) :
    Calls Tryz.prog 22 #[fogV k b p q] w fun e w' => e = .returned (.bool (fogOk k b p q)) ∧ Below w.heap.size w w' := by
  have HS := Lib.hid (fun w' (h : Below w.heap.size w w') => sounding_any k b p q w' (hF.below h))
  have HX := fun w' (h : Below w.heap.size w w') => fault_any k b p q ea ep eq w' (hE.below h)
  have hr : ∃ v, faultV k b p q ea ep eq = v ∧ ((v = .nilIface ∧ fogOk k b p q = true) ∨ (∃ x, v = .iface 137 x) ∧ fogOk k b p q = false) := by
    refine ⟨_, rfl, ?_⟩
    unfold faultV fogOk
    cases fogShape k b <;> cases fogPer k b p <;> cases fogPow q <;> first | exact .inl ⟨rfl, rfl⟩ | exact .inr ⟨⟨_, rfl⟩, rfl⟩
  obtain ⟨v, hv, hc⟩ := hr
  rw [hv] at HX
  have HX := Lib.hid HX
  generalize fogOk k b p q = r at *
  generalize fogNm k = s at *
  generalize fogLen k = z at *
  clear hv hF hE
  rcases hc with ⟨rfl, rfl⟩ | ⟨⟨x, rfl⟩, rfl⟩
  all_goals
    go_enter Tryz.func22, Tryz.ntmps22
    go_wp2_with (first
      | (go_at_call 18; (refine (HS.out _ (by go_grown)).mono ?_); rintro e w1 ⟨rfl, hb⟩; have AC := Lib.hid (Below.next (a := w) (by go_grown) hb); clear hb)
      | (go_at_call 45; (refine (HX.out _ AC.out).mono ?_); rintro e w2 ⟨rfl, hb⟩; have AC2 := Lib.hid (Below.next AC.out hb); clear hb))
    go_ret
    exact ⟨rfl, AC2.out⟩

end Go.Proofs.YthheacebafleeacGreatDoor
