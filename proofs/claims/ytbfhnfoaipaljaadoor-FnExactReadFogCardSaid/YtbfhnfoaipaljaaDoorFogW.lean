/- What is wrong with a fog signal, at last; is it valid? The program's. -/
import Derived.Test.YtbfhnfoaipaljaaDoorFogV
namespace Go.Proofs.YtbfhnfoaipaljaaDoor
open Go.ChangeShapes Go.WideShapes Go.ChangeAt Go.RowKit Pm

set_option maxRecDepth 100000 in
set_option maxHeartbeats 1000000 in
theorem fault_power (k b p q : Int) (s : ByteArray) (z : Int) (ea ep eq : Addr) (w : World) (hE : FogErrs ea ep eq w) (hz : z ≠ 0) (z0 : 0 ≤ z) (z1 : z ≤ 40) (hb6 : inB 1 6 [b] = true) (hp : inB (b * (2 * z)) 1200 [p] = true) (hq : inB 60 140 [q] = false) :
    Calls Tryd.prog 50 #[sndgV k b p q s z] w fun e w' => e = .returned (errV eq) ∧ Below w.heap.size w w' := by
  have HE := Lib.hid (fun w1 (h : Below w.heap.size w w1) => hE.below h)
  unfold errV at *
  have h0 : (z == 0) = false := by rw [beq_eq_false_iff_ne]; exact hz
  obtain ⟨b0, b1⟩ := inb_yes hb6
  have HL := Lib.hid (fun w => least_any2 k b p q s z w b0 b1 z0 z1)
  have HW := Lib.hid (fwithin b 1 6 true hb6)
  have HP := Lib.hid (fwithin p (b * (2 * z)) 1200 true hp)
  have HI := Lib.hid (fwithin_at p (b * (2 * z)) 1200 true hp)
  have HQ := Lib.hid (fwithin q 60 140 false hq)
  obtain ⟨y0, y1⟩ := blk_bd b0 b1 z0 z1
  obtain ⟨l, el⟩ : ∃ l, l = b * (2 * z) := ⟨_, rfl⟩
  rw [← el] at HL HP HI hp
  clear hz hE hb6 b0 b1 z0 z1 y0 y1 el hq
  go_enter Tryd.func50, Tryd.ntmps50
  go_wp2_with (go_at_call 68; (refine (HW.out _ _ ?_).mono ?_); (· simp); rintro e w1 ⟨rfl, hw1⟩; refine Hid.out ?_)
  refine Lib.hid ?_
  have hb : Below w.heap.size w w1 := by rw [← hw1]; go_grown
  have c0 : w1.cell? ⟨w.heap.size, 0, none⟩ = some (.int .i64 k) := by rw [← hw1]; clear hw1; go_cell
  have c1 : w1.cell? ⟨w.heap.size, 1, none⟩ = some (.int .i64 b) := by rw [← hw1]; clear hw1; go_cell
  have c2 : w1.cell? ⟨w.heap.size, 2, none⟩ = some (.int .i64 p) := by rw [← hw1]; clear hw1; go_cell
  have c3 : w1.cell? ⟨w.heap.size, 3, none⟩ = some (.int .i64 q) := by rw [← hw1]; clear hw1; go_cell
  have c4 : w1.cell? ⟨w.heap.size, 4, none⟩ = some (.string s) := by rw [← hw1]; clear hw1; go_cell
  have c5 : w1.cell? ⟨w.heap.size, 5, none⟩ = some (.int .i64 z) := by rw [← hw1]; clear hw1; go_cell
  have HB1 := Lib.hid hb
  have hsz : w.heap.size < w1.heap.size := by rw [← hw1]; clear hw1; simp; omega
  clear hb hw1
  go_wp2_with (fail)
  go_region_with (first | (go_at_call 55; (with_reducible refine (HL.out _).mono ?_); rintro e w2 ⟨rfl, hb⟩; have c0 := cell_below (a := ⟨w.heap.size, 0, none⟩) (v := .int .i64 k) (by first | assumption | go_cell) hb; have c1 := cell_below (a := ⟨w.heap.size, 1, none⟩) (v := .int .i64 b) (by first | assumption | go_cell) hb; have c2 := cell_below (a := ⟨w.heap.size, 2, none⟩) (v := .int .i64 p) (by first | assumption | go_cell) hb; have c3 := cell_below (a := ⟨w.heap.size, 3, none⟩) (v := .int .i64 q) (by first | assumption | go_cell) hb; have c4 := cell_below (a := ⟨w.heap.size, 4, none⟩) (v := .string s) (by first | assumption | go_cell) hb; have c5 := cell_below (a := ⟨w.heap.size, 5, none⟩) (v := .int .i64 z) (by first | assumption | go_cell) hb; have s0 := fun h => cell_below (a := ⟨w1.heap.size, 0, none⟩) (v := .int .i64 p) h hb; have ac := Below.next HB1.out (Below.next (a := w1) (by go_grown) hb); have E := HE.out _ ac; have e2 : w2.cell? ⟨2, 0, none⟩ = some (.iface 178 (.pointer (some ep))) := E.2.1; have e3 : w2.cell? ⟨3, 0, none⟩ = some (.iface 178 (.pointer (some eq))) := E.2.2.1; have hz2 := lt_of_cell e2; have hz3 := lt_of_cell e3; simp only at hz2 hz3; have hs2 := ac.size; have hs0 := lt_of_cell c0; simp only at hs0; clear E hb) | (go_at_call 68; (first | ((with_reducible refine (HP.out _ _ ?_).mono ?_); (· simp); rintro e w3 ⟨rfl, rfl⟩) | ((with_reducible refine (HI.out _ _ ?_).mono ?_); (· exact s0 (by go_cell)); rintro e w3 ⟨rfl, rfl⟩))))
  all_goals
    clear HL HP HI HW
    go_wp2_with (go_at_call 68; (with_reducible refine (HQ.out _ _ ?_).mono ?_); (· simp); rintro e w4 ⟨rfl, rfl⟩)
    go_ret
    exact ⟨rfl, by go_grown⟩

set_option maxRecDepth 100000 in
set_option maxHeartbeats 1000000 in
theorem fault_none (k b p q : Int) (s : ByteArray) (z : Int) (ea ep eq : Addr) (w : World) (hE : FogErrs ea ep eq w) (hz : z ≠ 0) (z0 : 0 ≤ z) (z1 : z ≤ 40) (hb6 : inB 1 6 [b] = true) (hp : inB (b * (2 * z)) 1200 [p] = true) (hq : inB 60 140 [q] = true) :
    Calls Tryd.prog 50 #[sndgV k b p q s z] w fun e w' => e = .returned .nilIface ∧ Below w.heap.size w w' := by
  have HE := Lib.hid (fun w1 (h : Below w.heap.size w w1) => hE.below h)
  unfold errV at *
  have h0 : (z == 0) = false := by rw [beq_eq_false_iff_ne]; exact hz
  obtain ⟨b0, b1⟩ := inb_yes hb6
  have HL := Lib.hid (fun w => least_any2 k b p q s z w b0 b1 z0 z1)
  have HW := Lib.hid (fwithin b 1 6 true hb6)
  have HP := Lib.hid (fwithin p (b * (2 * z)) 1200 true hp)
  have HI := Lib.hid (fwithin_at p (b * (2 * z)) 1200 true hp)
  have HQ := Lib.hid (fwithin q 60 140 true hq)
  obtain ⟨y0, y1⟩ := blk_bd b0 b1 z0 z1
  obtain ⟨l, el⟩ : ∃ l, l = b * (2 * z) := ⟨_, rfl⟩
  rw [← el] at HL HP HI hp
  clear hz hE hb6 b0 b1 z0 z1 y0 y1 el hq
  go_enter Tryd.func50, Tryd.ntmps50
  go_wp2_with (go_at_call 68; (refine (HW.out _ _ ?_).mono ?_); (· simp); rintro e w1 ⟨rfl, hw1⟩; refine Hid.out ?_)
  refine Lib.hid ?_
  have hb : Below w.heap.size w w1 := by rw [← hw1]; go_grown
  have c0 : w1.cell? ⟨w.heap.size, 0, none⟩ = some (.int .i64 k) := by rw [← hw1]; clear hw1; go_cell
  have c1 : w1.cell? ⟨w.heap.size, 1, none⟩ = some (.int .i64 b) := by rw [← hw1]; clear hw1; go_cell
  have c2 : w1.cell? ⟨w.heap.size, 2, none⟩ = some (.int .i64 p) := by rw [← hw1]; clear hw1; go_cell
  have c3 : w1.cell? ⟨w.heap.size, 3, none⟩ = some (.int .i64 q) := by rw [← hw1]; clear hw1; go_cell
  have c4 : w1.cell? ⟨w.heap.size, 4, none⟩ = some (.string s) := by rw [← hw1]; clear hw1; go_cell
  have c5 : w1.cell? ⟨w.heap.size, 5, none⟩ = some (.int .i64 z) := by rw [← hw1]; clear hw1; go_cell
  have HB1 := Lib.hid hb
  have hsz : w.heap.size < w1.heap.size := by rw [← hw1]; clear hw1; simp; omega
  clear hb hw1
  go_wp2_with (fail)
  go_region_with (first | (go_at_call 55; (with_reducible refine (HL.out _).mono ?_); rintro e w2 ⟨rfl, hb⟩; have c0 := cell_below (a := ⟨w.heap.size, 0, none⟩) (v := .int .i64 k) (by first | assumption | go_cell) hb; have c1 := cell_below (a := ⟨w.heap.size, 1, none⟩) (v := .int .i64 b) (by first | assumption | go_cell) hb; have c2 := cell_below (a := ⟨w.heap.size, 2, none⟩) (v := .int .i64 p) (by first | assumption | go_cell) hb; have c3 := cell_below (a := ⟨w.heap.size, 3, none⟩) (v := .int .i64 q) (by first | assumption | go_cell) hb; have c4 := cell_below (a := ⟨w.heap.size, 4, none⟩) (v := .string s) (by first | assumption | go_cell) hb; have c5 := cell_below (a := ⟨w.heap.size, 5, none⟩) (v := .int .i64 z) (by first | assumption | go_cell) hb; have s0 := fun h => cell_below (a := ⟨w1.heap.size, 0, none⟩) (v := .int .i64 p) h hb; have ac := Below.next HB1.out (Below.next (a := w1) (by go_grown) hb); have E := HE.out _ ac; have e2 : w2.cell? ⟨2, 0, none⟩ = some (.iface 178 (.pointer (some ep))) := E.2.1; have e3 : w2.cell? ⟨3, 0, none⟩ = some (.iface 178 (.pointer (some eq))) := E.2.2.1; have hz2 := lt_of_cell e2; have hz3 := lt_of_cell e3; simp only at hz2 hz3; have hs2 := ac.size; have hs0 := lt_of_cell c0; simp only at hs0; clear E hb) | (go_at_call 68; (first | ((with_reducible refine (HP.out _ _ ?_).mono ?_); (· simp); rintro e w3 ⟨rfl, rfl⟩) | ((with_reducible refine (HI.out _ _ ?_).mono ?_); (· exact s0 (by go_cell)); rintro e w3 ⟨rfl, rfl⟩))))
  all_goals
    clear HL HP HI HW
    go_wp2_with (go_at_call 68; (with_reducible refine (HQ.out _ _ ?_).mono ?_); (· simp); rintro e w4 ⟨rfl, rfl⟩)
    go_ret
    exact ⟨rfl, by go_grown⟩

/-- What is wrong with a fog signal. -/
def faultV (k b p q : Int) (ea ep eq : Addr) : Value := if fogShape k b then (if fogPer k b p then (if fogPow q then .nilIface else errV eq) else errV ep) else errV ea
theorem fault_any (k b p q : Int) (ea ep eq : Addr) (w : World) (hE : FogErrs ea ep eq w) :
    Calls Tryd.prog 50 #[sndgV k b p q (fogNm k) (fogLen k)] w fun e w' => e = .returned (faultV k b p q ea ep eq) ∧ Below w.heap.size w w' := by
  have hz := fogLen_zero k
  obtain ⟨z0, z1⟩ := fogLen_bd k
  unfold faultV fogShape
  cases h1 : inB 1 4 [k]
  · exact fault_kind k b p q _ _ ea ep eq w hE (fogLen_out h1)
  have hne : fogLen k ≠ 0 := by have := fogLen_in h1; omega
  cases h2 : inB 1 6 [b]
  · exact fault_blasts k b p q _ _ ea ep eq w hE hne h2
  unfold fogPer
  rw [← step_least]
  cases h3 : inB (b * (2 * fogLen k)) 1200 [p]
  · exact fault_period k b p q _ _ ea ep eq w hE hne z0 z1 h2 h3
  unfold fogPow
  cases h4 : inB 60 140 [q]
  · exact fault_power k b p q _ _ ea ep eq w hE hne z0 z1 h2 h3 h4
  · exact fault_none k b p q _ _ ea ep eq w hE hne z0 z1 h2 h3 h4

set_option maxRecDepth 100000 in
theorem validfog_any (k b p q : Int) (ea ep eq : Addr) (w : World) (hF : FogsAt w) (hE : FogErrs ea ep eq w) :
    Calls Tryd.prog 19 #[fogV k b p q] w fun e w' => e = .returned (.bool (fogOk k b p q)) ∧ Below w.heap.size w w' := by
  have HS := Lib.hid (fun w' (h : Below w.heap.size w w') => sounding_any k b p q w' (hF.below h))
  have HX := fun w' (h : Below w.heap.size w w') => fault_any k b p q ea ep eq w' (hE.below h)
  have hr : ∃ v, faultV k b p q ea ep eq = v ∧ ((v = .nilIface ∧ fogOk k b p q = true) ∨ (∃ x, v = .iface 178 x) ∧ fogOk k b p q = false) := by
    refine ⟨_, rfl, ?_⟩
    unfold faultV fogOk
    cases fogShape k b <;> cases fogPer k b p <;> cases fogPow q <;> first | exact .inl ⟨rfl, rfl⟩ | exact .inr ⟨⟨_, rfl⟩, rfl⟩
  obtain ⟨v, hv, hc⟩ := hr
  rw [hv] at HX
  have HX := Lib.hid HX
  generalize fogOk k b p q = r at *
  generalize fogNm k = s at *
  generalize fogLen k = z at *
  clear hv hF hE
  rcases hc with ⟨rfl, rfl⟩ | ⟨⟨x, rfl⟩, rfl⟩
  all_goals
    go_enter Tryd.func19, Tryd.ntmps19
    go_wp2_with (first
      | (go_at_call 49; (refine (HS.out _ (by go_grown)).mono ?_); rintro e w1 ⟨rfl, hb⟩; have AC := Lib.hid (Below.next (a := w) (by go_grown) hb); clear hb)
      | (go_at_call 50; (refine (HX.out _ AC.out).mono ?_); rintro e w2 ⟨rfl, hb⟩; have AC2 := Lib.hid (Below.next AC.out hb); clear hb))
    go_ret
    exact ⟨rfl, AC2.out⟩

end Go.Proofs.YtbfhnfoaipaljaaDoor
