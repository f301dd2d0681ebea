/- Is a fog signal heard at a place? The model's answer. -/
import Derived.Test.YtbfhnfoaipaljaaDoorHrdI
import Derived.Test.YtbfhnfoaipaljaaDoorFogS
import Derived.Test.YtbfhnfoaipaljaaDoorDistS
namespace Go.Proofs.YtbfhnfoaipaljaaDoor
open Go.ChangeShapes Go.WideShapes Go.ChangeAt Go.RowKit Pm

theorem sapart_at {ax ay bx cy D : Int} (ha : Vd ax ay) (hb : Vd bx cy) (hD : Root (sqd ax ay bx cy) D) (w : World) :
    Calls Tryd.prog 72 #[.agg #[.int .i64 ax, .int .i64 ay], .agg #[.int .i64 bx, .int .i64 cy]] w fun e w' => e = .returned (.int .i64 D) ∧ Below w.heap.size w w' :=
  (sapart_any ax ay bx cy w ha hb).mono fun _ _ ⟨r, hr, he, hb⟩ => ⟨by rw [he, hr.one hD], hb⟩

set_option maxRecDepth 100000 in
set_option maxHeartbeats 1000000 in
theorem sheard_no1 (k b p q ax ay bx cy v : Int) (w : World) (h1 : fogOk k b p q = false) :
    Calls Tryd.prog 35 #[.agg #[.int .i64 k, .int .i64 b, .int .i64 p, .int .i64 q], .agg #[.int .i64 ax, .int .i64 ay], .agg #[.int .i64 bx, .int .i64 cy], .int .i64 v] w (RetB false 1 w) := by
  have HV := Lib.hid (fun w' h => h1 ▸ sfogok_any w.heap.size k b p q w' h)
  clear h1
  go_enter Tryd.func35, Tryd.ntmps35
  go_wp2_with (go_at_call 48; (refine (HV.out _ ?_).mono ?_); (· exact ⟨by go_cell, by go_cell, by go_cell, by go_cell⟩); rintro e w1 ⟨rfl, hb⟩; refine Hid.out ?_)
  refine Lib.hid ?_
  have AC := Lib.hid (Below.next (a := w) (by go_grown) hb)
  clear hb
  go_wp2
  go_ret2
  exact ⟨rfl, AC.out⟩

set_option maxRecDepth 100000 in
set_option maxHeartbeats 1000000 in
theorem sheard_no2 (k b p q ax ay bx cy v : Int) (w : World) (h1 : fogOk k b p q = true) (h2 : inB 0 200000 [ax, ay] = false) :
    Calls Tryd.prog 35 #[.agg #[.int .i64 k, .int .i64 b, .int .i64 p, .int .i64 q], .agg #[.int .i64 ax, .int .i64 ay], .agg #[.int .i64 bx, .int .i64 cy], .int .i64 v] w (RetB false 1 w) := by
  have HV := Lib.hid (fun w' h => h1 ▸ sfogok_any w.heap.size k b p q w' h)
  have H1 := Lib.hid (fun w => h2 ▸ sok_any ax ay w)
  clear h1 h2
  go_enter Tryd.func35, Tryd.ntmps35
  go_wp2_with (go_at_call 48; (refine (HV.out _ ?_).mono ?_); (· exact ⟨by go_cell, by go_cell, by go_cell, by go_cell⟩); rintro e w1 ⟨rfl, hb⟩; refine Hid.out ?_)
  refine Lib.hid ?_
  have c0 : w1.cell? ⟨w.heap.size, 0, none⟩ = some (.int .i64 k) := cell_below (by go_cell) hb
  have c1 : w1.cell? ⟨w.heap.size, 1, none⟩ = some (.int .i64 b) := cell_below (by go_cell) hb
  have c2 : w1.cell? ⟨w.heap.size, 2, none⟩ = some (.int .i64 p) := cell_below (by go_cell) hb
  have c3 : w1.cell? ⟨w.heap.size, 3, none⟩ = some (.int .i64 q) := cell_below (by go_cell) hb
  have c4 : w1.cell? ⟨w.heap.size + 1, 0, none⟩ = some (.int .i64 ax) := cell_below (by go_cell) hb
  have c5 : w1.cell? ⟨w.heap.size + 1, 1, none⟩ = some (.int .i64 ay) := cell_below (by go_cell) hb
  have c6 : w1.cell? ⟨w.heap.size + 2, 0, none⟩ = some (.int .i64 bx) := cell_below (by go_cell) hb
  have c7 : w1.cell? ⟨w.heap.size + 2, 1, none⟩ = some (.int .i64 cy) := cell_below (by go_cell) hb
  have AC := Lib.hid (Below.next (a := w) (by go_grown) hb)
  clear hb
  go_wp2_with (go_at_call 71; (with_reducible refine (H1.out _).mono ?_); rintro e w2 ⟨rfl, hb⟩; refine Hid.out ?_)
  refine Lib.hid ?_
  replace c0 := cell_below c0 hb
  replace c1 := cell_below c1 hb
  replace c2 := cell_below c2 hb
  replace c3 := cell_below c3 hb
  replace c4 := cell_below c4 hb
  replace c5 := cell_below c5 hb
  replace c6 := cell_below c6 hb
  replace c7 := cell_below c7 hb
  replace AC := Lib.hid (Below.next AC.out hb)
  clear hb
  go_wp2
  go_ret2
  exact ⟨rfl, AC.out⟩

set_option maxRecDepth 100000 in
set_option maxHeartbeats 1000000 in
theorem sheard_no2b (k b p q ax ay bx cy v : Int) (w : World) (h1 : fogOk k b p q = true) (h2 : inB 0 200000 [ax, ay] = true) (h4 : inB 0 200000 [bx, cy] = false) :
    Calls Tryd.prog 35 #[.agg #[.int .i64 k, .int .i64 b, .int .i64 p, .int .i64 q], .agg #[.int .i64 ax, .int .i64 ay], .agg #[.int .i64 bx, .int .i64 cy], .int .i64 v] w (RetB false 1 w) := by
  have HV := Lib.hid (fun w' h => h1 ▸ sfogok_any w.heap.size k b p q w' h)
  have H1 := Lib.hid (fun w => h2 ▸ sok_any ax ay w)
  have H2 := Lib.hid (fun w => h4 ▸ sok_any bx cy w)
  clear h1 h2 h4
  go_enter Tryd.func35, Tryd.ntmps35
  go_wp2_with (go_at_call 48; (refine (HV.out _ ?_).mono ?_); (· exact ⟨by go_cell, by go_cell, by go_cell, by go_cell⟩); rintro e w1 ⟨rfl, hb⟩; refine Hid.out ?_)
  refine Lib.hid ?_
  have c0 : w1.cell? ⟨w.heap.size, 0, none⟩ = some (.int .i64 k) := cell_below (by go_cell) hb
  have c1 : w1.cell? ⟨w.heap.size, 1, none⟩ = some (.int .i64 b) := cell_below (by go_cell) hb
  have c2 : w1.cell? ⟨w.heap.size, 2, none⟩ = some (.int .i64 p) := cell_below (by go_cell) hb
  have c3 : w1.cell? ⟨w.heap.size, 3, none⟩ = some (.int .i64 q) := cell_below (by go_cell) hb
  have c4 : w1.cell? ⟨w.heap.size + 1, 0, none⟩ = some (.int .i64 ax) := cell_below (by go_cell) hb
  have c5 : w1.cell? ⟨w.heap.size + 1, 1, none⟩ = some (.int .i64 ay) := cell_below (by go_cell) hb
  have c6 : w1.cell? ⟨w.heap.size + 2, 0, none⟩ = some (.int .i64 bx) := cell_below (by go_cell) hb
  have c7 : w1.cell? ⟨w.heap.size + 2, 1, none⟩ = some (.int .i64 cy) := cell_below (by go_cell) hb
  have AC := Lib.hid (Below.next (a := w) (by go_grown) hb)
  clear hb
  go_wp2_with (go_at_call 71; (with_reducible refine (H1.out _).mono ?_); rintro e w2 ⟨rfl, hb⟩; refine Hid.out ?_)
  refine Lib.hid ?_
  replace c0 := cell_below c0 hb
  replace c1 := cell_below c1 hb
  replace c2 := cell_below c2 hb
  replace c3 := cell_below c3 hb
  replace c4 := cell_below c4 hb
  replace c5 := cell_below c5 hb
  replace c6 := cell_below c6 hb
  replace c7 := cell_below c7 hb
  replace AC := Lib.hid (Below.next AC.out hb)
  clear hb
  go_wp2_with (go_at_call 71; (with_reducible refine (H2.out _).mono ?_); rintro e w2 ⟨rfl, hb⟩; refine Hid.out ?_)
  refine Lib.hid ?_
  replace c0 := cell_below c0 hb
  replace c1 := cell_below c1 hb
  replace c2 := cell_below c2 hb
  replace c3 := cell_below c3 hb
  replace c4 := cell_below c4 hb
  replace c5 := cell_below c5 hb
  replace c6 := cell_below c6 hb
  replace c7 := cell_below c7 hb
  replace AC := Lib.hid (Below.next AC.out hb)
  clear hb
  go_wp2
  go_ret2
  exact ⟨rfl, AC.out⟩

set_option maxRecDepth 100000 in
set_option maxHeartbeats 1000000 in
theorem sheard_no3 (k b p q ax ay bx cy v : Int) (w : World) (h1 : fogOk k b p q = true) (h2 : inB 0 200000 [ax, ay] = true) (h4 : inB 0 200000 [bx, cy] = true) (h3 : inB (-3) 3 [v] = false) :
    Calls Tryd.prog 35 #[.agg #[.int .i64 k, .int .i64 b, .int .i64 p, .int .i64 q], .agg #[.int .i64 ax, .int .i64 ay], .agg #[.int .i64 bx, .int .i64 cy], .int .i64 v] w (RetB false 2 w) := by
  have HV := Lib.hid (fun w' h => h1 ▸ sfogok_any w.heap.size k b p q w' h)
  have H1 := Lib.hid (fun w => h2 ▸ sok_any ax ay w)
  have H2 := Lib.hid (fun w => h4 ▸ sok_any bx cy w)
  have HW := Lib.hid (fun w => h3 ▸ swind_any v w)
  clear h1 h2 h3 h4
  go_enter Tryd.func35, Tryd.ntmps35
  go_wp2_with (go_at_call 48; (refine (HV.out _ ?_).mono ?_); (· exact ⟨by go_cell, by go_cell, by go_cell, by go_cell⟩); rintro e w1 ⟨rfl, hb⟩; refine Hid.out ?_)
  refine Lib.hid ?_
  have c0 : w1.cell? ⟨w.heap.size, 0, none⟩ = some (.int .i64 k) := cell_below (by go_cell) hb
  have c1 : w1.cell? ⟨w.heap.size, 1, none⟩ = some (.int .i64 b) := cell_below (by go_cell) hb
  have c2 : w1.cell? ⟨w.heap.size, 2, none⟩ = some (.int .i64 p) := cell_below (by go_cell) hb
  have c3 : w1.cell? ⟨w.heap.size, 3, none⟩ = some (.int .i64 q) := cell_below (by go_cell) hb
  have c4 : w1.cell? ⟨w.heap.size + 1, 0, none⟩ = some (.int .i64 ax) := cell_below (by go_cell) hb
  have c5 : w1.cell? ⟨w.heap.size + 1, 1, none⟩ = some (.int .i64 ay) := cell_below (by go_cell) hb
  have c6 : w1.cell? ⟨w.heap.size + 2, 0, none⟩ = some (.int .i64 bx) := cell_below (by go_cell) hb
  have c7 : w1.cell? ⟨w.heap.size + 2, 1, none⟩ = some (.int .i64 cy) := cell_below (by go_cell) hb
  have AC := Lib.hid (Below.next (a := w) (by go_grown) hb)
  clear hb
  go_wp2_with (go_at_call 71; (with_reducible refine (H1.out _).mono ?_); rintro e w2 ⟨rfl, hb⟩; refine Hid.out ?_)
  refine Lib.hid ?_
  replace c0 := cell_below c0 hb
  replace c1 := cell_below c1 hb
  replace c2 := cell_below c2 hb
  replace c3 := cell_below c3 hb
  replace c4 := cell_below c4 hb
  replace c5 := cell_below c5 hb
  replace c6 := cell_below c6 hb
  replace c7 := cell_below c7 hb
  replace AC := Lib.hid (Below.next AC.out hb)
  clear hb
  go_wp2_with (go_at_call 71; (with_reducible refine (H2.out _).mono ?_); rintro e w2 ⟨rfl, hb⟩; refine Hid.out ?_)
  refine Lib.hid ?_
  replace c0 := cell_below c0 hb
  replace c1 := cell_below c1 hb
  replace c2 := cell_below c2 hb
  replace c3 := cell_below c3 hb
  replace c4 := cell_below c4 hb
  replace c5 := cell_below c5 hb
  replace c6 := cell_below c6 hb
  replace c7 := cell_below c7 hb
  replace AC := Lib.hid (Below.next AC.out hb)
  clear hb
  go_wp2_with (go_at_call 66; (refine (HW.out _).mono ?_); rintro e w3 ⟨rfl, rfl⟩; refine Hid.out ?_)
  refine Lib.hid ?_
  go_wp2
  go_ret2
  exact ⟨rfl, AC.out⟩

set_option maxRecDepth 100000 in
set_option maxHeartbeats 1000000 in
theorem sheard_yes (k b p q ax ay bx cy v : Int) (w : World) (h1 : fogOk k b p q = true) (h2 : inB 0 200000 [ax, ay] = true) (h4 : inB 0 200000 [bx, cy] = true) (h3 : inB (-3) 3 [v] = true) (D : Int) (hD : Root (sqd ax ay bx cy) D) :
    Calls Tryd.prog 35 #[.agg #[.int .i64 k, .int .i64 b, .int .i64 p, .int .i64 q], .agg #[.int .i64 ax, .int .i64 ay], .agg #[.int .i64 bx, .int .i64 cy], .int .i64 v] w (RetB (decide (D ≤ sndV q v)) 0 w) := by
  have HV := Lib.hid (fun w' h => h1 ▸ sfogok_any w.heap.size k b p q w' h)
  have H1 := Lib.hid (fun w => h2 ▸ sok_any ax ay w)
  have H2 := Lib.hid (fun w => h4 ▸ sok_any bx cy w)
  have HW := Lib.hid (fun w => h3 ▸ swind_any v w)
  have HD := Lib.hid (fun w => sapart_at (vd_of h2) (vd_of h4) hD w)
  obtain ⟨_, _, q0, q1⟩ := ok_parts h1
  obtain ⟨v0, v1⟩ := inb_yes h3
  have HR := Lib.hid (fun w' => srange_any q v w' q0 q1 v0 v1)
  generalize sndV q v = z at *
  clear h1 h2 h3 h4 hD q0 q1 v0 v1
  go_enter Tryd.func35, Tryd.ntmps35
  go_wp2_with (go_at_call 48; (refine (HV.out _ ?_).mono ?_); (· exact ⟨by go_cell, by go_cell, by go_cell, by go_cell⟩); rintro e w1 ⟨rfl, hb⟩; refine Hid.out ?_)
  refine Lib.hid ?_
  have c0 : w1.cell? ⟨w.heap.size, 0, none⟩ = some (.int .i64 k) := cell_below (by go_cell) hb
  have c1 : w1.cell? ⟨w.heap.size, 1, none⟩ = some (.int .i64 b) := cell_below (by go_cell) hb
  have c2 : w1.cell? ⟨w.heap.size, 2, none⟩ = some (.int .i64 p) := cell_below (by go_cell) hb
  have c3 : w1.cell? ⟨w.heap.size, 3, none⟩ = some (.int .i64 q) := cell_below (by go_cell) hb
  have c4 : w1.cell? ⟨w.heap.size + 1, 0, none⟩ = some (.int .i64 ax) := cell_below (by go_cell) hb
  have c5 : w1.cell? ⟨w.heap.size + 1, 1, none⟩ = some (.int .i64 ay) := cell_below (by go_cell) hb
  have c6 : w1.cell? ⟨w.heap.size + 2, 0, none⟩ = some (.int .i64 bx) := cell_below (by go_cell) hb
  have c7 : w1.cell? ⟨w.heap.size + 2, 1, none⟩ = some (.int .i64 cy) := cell_below (by go_cell) hb
  have AC := Lib.hid (Below.next (a := w) (by go_grown) hb)
  clear hb
  go_wp2_with (go_at_call 71; (with_reducible refine (H1.out _).mono ?_); rintro e w2 ⟨rfl, hb⟩; refine Hid.out ?_)
  refine Lib.hid ?_
  replace c0 := cell_below c0 hb
  replace c1 := cell_below c1 hb
  replace c2 := cell_below c2 hb
  replace c3 := cell_below c3 hb
  replace c4 := cell_below c4 hb
  replace c5 := cell_below c5 hb
  replace c6 := cell_below c6 hb
  replace c7 := cell_below c7 hb
  replace AC := Lib.hid (Below.next AC.out hb)
  clear hb
  go_wp2_with (go_at_call 71; (with_reducible refine (H2.out _).mono ?_); rintro e w2 ⟨rfl, hb⟩; refine Hid.out ?_)
  refine Lib.hid ?_
  replace c0 := cell_below c0 hb
  replace c1 := cell_below c1 hb
  replace c2 := cell_below c2 hb
  replace c3 := cell_below c3 hb
  replace c4 := cell_below c4 hb
  replace c5 := cell_below c5 hb
  replace c6 := cell_below c6 hb
  replace c7 := cell_below c7 hb
  replace AC := Lib.hid (Below.next AC.out hb)
  clear hb
  go_wp2_with (go_at_call 66; (refine (HW.out _).mono ?_); rintro e w3 ⟨rfl, rfl⟩; refine Hid.out ?_)
  refine Lib.hid ?_
  go_wp2
  obtain ⟨S, hcl, hS0, k3, k4, k5, k6, k7, kT, kB⟩ := clx5 c3 c4 c5 c6 c7 (fun _ => True) (fun _ _ h hb => trivial) trivial AC.out
  have hne : Nonempty (Clx S) := ⟨⟨_, hS0⟩⟩
  clear c0 c1 c2 c3 c4 c5 c6 c7 AC HV
  refine wp_region_clx S (by kernel_rfl) (by kernel_rfl) hS0 ?_
  repeat (go_big_quiet_step (first
    | (go_at_call 72; exact Clx.call hcl _ (HD.out _))
    | (go_at_call 67; exact Clx.call hcl _ (HR.out _))))
  refine wpQuiet_nil ?_
  intro _ hw'
  obtain ⟨x, rfl⟩ := hw'
  go_wp2_with (fail)
  go_ret2
  exact ⟨rfl, kB x⟩

theorem sheard_any (k b p q ax ay bx cy v : Int) (w : World) (D : Int) (hD : (okB (ax, ay) && okB (bx, cy)) = true → Root (sqd ax ay bx cy) D) :
    Calls Tryd.prog 35 #[.agg #[.int .i64 k, .int .i64 b, .int .i64 p, .int .i64 q], .agg #[.int .i64 ax, .int .i64 ay], .agg #[.int .i64 bx, .int .i64 cy], .int .i64 v] w (RetB (hrdA (fogOk k b p q) (okB (ax, ay) && okB (bx, cy)) (inB (-3) 3 [v]) D q v) (hrdC (fogOk k b p q) (okB (ax, ay) && okB (bx, cy)) (inB (-3) 3 [v])) w) := by
  unfold okB at *
  simp only at *
  cases h1 : fogOk k b p q
  · exact sheard_no1 k b p q ax ay bx cy v w h1
  cases h2 : inB 0 200000 [ax, ay]
  · exact sheard_no2 k b p q ax ay bx cy v w h1 h2
  cases h4 : inB 0 200000 [bx, cy]
  · exact sheard_no2b k b p q ax ay bx cy v w h1 h2 h4
  cases h3 : inB (-3) 3 [v]
  · exact sheard_no3 k b p q ax ay bx cy v w h1 h2 h4 h3
  · have := sheard_yes k b p q ax ay bx cy v w h1 h2 h4 h3 D (hD (by rw [h2, h4]; rfl))
    simpa [hrdA, hrdC] using this

end Go.Proofs.YtbfhnfoaipaljaaDoor
