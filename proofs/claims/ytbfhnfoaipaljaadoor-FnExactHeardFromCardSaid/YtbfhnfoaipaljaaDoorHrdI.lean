/- Is a fog signal heard at a place? The program's answer. -/
import Derived.Test.YtbfhnfoaipaljaaDoorSonS
import Derived.Test.YtbfhnfoaipaljaaDoorFogW
import Derived.Test.YtbfhnfoaipaljaaDoorDist
namespace Go.Proofs.YtbfhnfoaipaljaaDoor
open Go.ChangeShapes Go.WideShapes Go.ChangeAt Go.RowKit Pm

theorem sqrt_is (n : Nat) : ∃ r : Nat, r * r ≤ n ∧ n < (r + 1) * (r + 1) := by
  induction n with
  | zero => exact ⟨0, by omega, by omega⟩
  | succ n ih =>
    obtain ⟨r, h1, h2⟩ := ih
    by_cases h : n + 1 < (r + 1) * (r + 1)
    · exact ⟨r, by omega, h⟩
    · refine ⟨r + 1, by omega, ?_⟩
      have e : (r + 1 + 1) * (r + 1 + 1) = (r + 1) * (r + 1) + 2 * (r + 1) + 1 := by grind
      omega
theorem root_is {n : Int} (h0 : 0 ≤ n) (h1 : n ≤ 9223372030926249000) : ∃ r, Root n r := by
  obtain ⟨N, rfl⟩ := Int.eq_ofNat_of_zero_le h0
  obtain ⟨r, h2, h3⟩ := sqrt_is N
  have h4 : ((r * r : Nat) : Int) ≤ N := by omega
  have h5 : (N : Int) < (((r + 1) * (r + 1) : Nat) : Int) := by omega
  simp only [Int.natCast_mul, Int.natCast_add, Int.natCast_one] at h4 h5
  refine ⟨r, by omega, ?_, fun h => by omega, fun _ => ⟨h4, h5⟩⟩
  by_cases hr : (r : Int) ≤ 3037000499
  · exact hr
  · have : (3037000500 : Int) * 3037000500 ≤ r * r := Int.mul_le_mul (by omega) (by omega) (by omega) (by omega)
    omega
theorem dist_is (ax ay bx cy : Int) : ∃ r, (okB (ax, ay) && okB (bx, cy)) = true → Root (sqd ax ay bx cy) r := by
  by_cases hc : (okB (ax, ay) && okB (bx, cy)) = true
  · obtain ⟨ha, hb⟩ : okB (ax, ay) = true ∧ okB (bx, cy) = true := by simpa using hc
    obtain ⟨r, hr⟩ := root_is (sqd_nn ax ay bx cy) (Int.le_trans (sqd_bd (vd_of ha) (vd_of hb)) (by decide))
    exact ⟨r, fun _ => hr⟩
  · exact ⟨0, fun h => absurd h hc⟩
theorem distance_at {ax ay bx cy D : Int} (h : (okB (ax, ay) && okB (bx, cy)) = true) (hD : Root (sqd ax ay bx cy) D) (w : World) :
    Calls Tryd.prog 74 #[.agg #[.int .i64 ax, .int .i64 ay], .agg #[.int .i64 bx, .int .i64 cy]] w fun e w' => e = .returned (.int .i64 D) ∧ Below w.heap.size w w' :=
  (distance_any ax ay bx cy w).mono fun _ _ ⟨r, hr, he, hb⟩ => ⟨by rw [he, (show Root _ r by unfold DistIs at hr; rwa [if_pos h] at hr).one hD], hb⟩
/-- What is answered, the distance of the points being D. -/
def hrdA (r1 r2 r3 : Bool) (D q v : Int) : Bool := r1 && r2 && r3 && decide (D ≤ sndV q v)
def hrdC (r1 r2 r3 : Bool) : Int := if r1 && r2 then (if r3 then 0 else 2) else 1
/-- A test's answer and a code are returned. -/
def RetB (a : Bool) (c : Int) (w : World) (e : Ending) (w' : World) : Prop := e = .returned (.tuple #[.bool a, .int .i64 c]) ∧ Below w.heap.size w w'
/-- Worlds with five cells and the table of loudness. -/
theorem clx5 {w0 w : World} {a0 a1 a2 a3 a4 : Addr} {v0 v1 v2 v3 v4 : Value} (h0 : w.cell? a0 = some v0) (h1 : w.cell? a1 = some v1) (h2 : w.cell? a2 = some v2) (h3 : w.cell? a3 = some v3) (h4 : w.cell? a4 = some v4) (R : World → Prop) (hR : ∀ w1 w2, R w1 → Below w1.heap.size w1 w2 → R w2) (hw : R w) (hB : Below w0.heap.size w0 w) :
    ∃ S : World → Prop, (∀ w1 w2, S w1 → Below w1.heap.size w1 w2 → S w2) ∧ S w.drew ∧ (∀ p : Clx S, p.v.cell? a0 = some v0) ∧ (∀ p : Clx S, p.v.cell? a1 = some v1) ∧ (∀ p : Clx S, p.v.cell? a2 = some v2) ∧ (∀ p : Clx S, p.v.cell? a3 = some v3) ∧ (∀ p : Clx S, p.v.cell? a4 = some v4) ∧ (∀ p : Clx S, R p.v) ∧ ∀ p : Clx S, Below w0.heap.size w0 p.v :=
  ⟨fun w' => w'.cell? a0 = some v0 ∧ w'.cell? a1 = some v1 ∧ w'.cell? a2 = some v2 ∧ w'.cell? a3 = some v3 ∧ w'.cell? a4 = some v4 ∧ R w' ∧ Below w0.heap.size w0 w',
    fun _ _ ⟨g0, g1, g2, g3, g4, g5, g6⟩ hb => ⟨cell_below g0 hb, cell_below g1 hb, cell_below g2 hb, cell_below g3 hb, cell_below g4 hb, hR _ _ g5 hb, Below.next g6 hb⟩,
    ⟨h0, h1, h2, h3, h4, hR _ _ hw (Below.refl _ _).drew, hB.drew⟩, fun p => p.h.1, fun p => p.h.2.1, fun p => p.h.2.2.1, fun p => p.h.2.2.2.1, fun p => p.h.2.2.2.2.1, fun p => p.h.2.2.2.2.2.1, fun p => p.h.2.2.2.2.2.2⟩

set_option maxRecDepth 100000 in
set_option maxHeartbeats 1000000 in
theorem heard_no1 (k b p q ax ay bx cy v : Int) (ea ep eq : Addr) (w : World) (hF : FogsAt w) (hE : FogErrs ea ep eq w) (h1 : fogOk k b p q = false) :
    Calls Tryd.prog 37 #[fogV k b p q, .agg #[.int .i64 ax, .int .i64 ay], .agg #[.int .i64 bx, .int .i64 cy], .int .i64 v] w (RetB false 1 w) := by
  have HV := Lib.hid (fun w' (h : Below w.heap.size w w') => h1 ▸ validfog_any k b p q ea ep eq w' (hF.below h) (hE.below h))
  clear h1 hF hE
  go_enter Tryd.func37, Tryd.ntmps37
  go_wp2_with (go_at_call 19; (refine (HV.out _ (by go_grown)).mono ?_); rintro e w1 ⟨rfl, hb⟩; refine Hid.out ?_)
  refine Lib.hid ?_
  have AC := Lib.hid (Below.next (a := w) (by go_grown) hb)
  clear hb
  go_wp2
  go_ret2
  exact ⟨rfl, AC.out⟩

set_option maxRecDepth 100000 in
set_option maxHeartbeats 1000000 in
theorem heard_no2 (k b p q ax ay bx cy v : Int) (ea ep eq : Addr) (w : World) (hF : FogsAt w) (hE : FogErrs ea ep eq w) (h1 : fogOk k b p q = true) (h2 : (okB (ax, ay) && okB (bx, cy)) = false) :
    Calls Tryd.prog 37 #[fogV k b p q, .agg #[.int .i64 ax, .int .i64 ay], .agg #[.int .i64 bx, .int .i64 cy], .int .i64 v] w (RetB false 1 w) := by
  have HV := Lib.hid (fun w' (h : Below w.heap.size w w') => h1 ▸ validfog_any k b p q ea ep eq w' (hF.below h) (hE.below h))
  have E2 := Lib.hid (show [(ax, ay), (bx, cy)].all okB = false by rw [show [(ax, ay), (bx, cy)].all okB = (okB (ax, ay) && okB (bx, cy)) by simp]; exact h2)
  clear h1 h2 hF hE
  go_enter Tryd.func37, Tryd.ntmps37
  go_wp2_with (go_at_call 19; (refine (HV.out _ (by go_grown)).mono ?_); rintro e w1 ⟨rfl, hb⟩; refine Hid.out ?_)
  refine Lib.hid ?_
  have c0 : w1.cell? ⟨w.heap.size, 0, none⟩ = some (.int .i64 k) := cell_below (by go_cell) hb
  have c1 : w1.cell? ⟨w.heap.size, 1, none⟩ = some (.int .i64 b) := cell_below (by go_cell) hb
  have c2 : w1.cell? ⟨w.heap.size, 2, none⟩ = some (.int .i64 p) := cell_below (by go_cell) hb
  have c3 : w1.cell? ⟨w.heap.size, 3, none⟩ = some (.int .i64 q) := cell_below (by go_cell) hb
  have c4 : w1.cell? ⟨w.heap.size + 1, 0, none⟩ = some (.int .i64 ax) := cell_below (by go_cell) hb
  have c5 : w1.cell? ⟨w.heap.size + 1, 1, none⟩ = some (.int .i64 ay) := cell_below (by go_cell) hb
  have c6 : w1.cell? ⟨w.heap.size + 2, 0, none⟩ = some (.int .i64 bx) := cell_below (by go_cell) hb
  have c7 : w1.cell? ⟨w.heap.size + 2, 1, none⟩ = some (.int .i64 cy) := cell_below (by go_cell) hb
  have AC := Lib.hid (Below.next (a := w) (by go_grown) hb)
  clear hb
  go_wp2_with (go_at_call 73; (refine (arepts_any _ _ _ (pts_two _ _ _ _ _ _ (by simp))).mono ?_); rintro e w2 ⟨rfl, hb2⟩; rw [E2.out]; refine Hid.out ?_)
  refine Lib.hid ?_
  have AC2 := Lib.hid (Below.next (a := w) (show Below w.heap.size w _ from AC.out.alloc AC.out.size _) hb2)
  clear hb2
  go_wp2
  go_ret2
  exact ⟨rfl, AC2.out⟩

set_option maxRecDepth 100000 in
set_option maxHeartbeats 1000000 in
theorem heard_no3 (k b p q ax ay bx cy v : Int) (ea ep eq : Addr) (w : World) (hF : FogsAt w) (hE : FogErrs ea ep eq w) (h1 : fogOk k b p q = true) (h2 : (okB (ax, ay) && okB (bx, cy)) = true) (h3 : inB (-3) 3 [v] = false) :
    Calls Tryd.prog 37 #[fogV k b p q, .agg #[.int .i64 ax, .int .i64 ay], .agg #[.int .i64 bx, .int .i64 cy], .int .i64 v] w (RetB false 2 w) := by
  have HV := Lib.hid (fun w' (h : Below w.heap.size w w') => h1 ▸ validfog_any k b p q ea ep eq w' (hF.below h) (hE.below h))
  have E2 := Lib.hid (show [(ax, ay), (bx, cy)].all okB = true by rw [show [(ax, ay), (bx, cy)].all okB = (okB (ax, ay) && okB (bx, cy)) by simp]; exact h2)
  have HW := Lib.hid (fun w => h3 ▸ iswind_any v w)
  clear h1 h2 h3 hF hE
  go_enter Tryd.func37, Tryd.ntmps37
  go_wp2_with (go_at_call 19; (refine (HV.out _ (by go_grown)).mono ?_); rintro e w1 ⟨rfl, hb⟩; refine Hid.out ?_)
  refine Lib.hid ?_
  have c0 : w1.cell? ⟨w.heap.size, 0, none⟩ = some (.int .i64 k) := cell_below (by go_cell) hb
  have c1 : w1.cell? ⟨w.heap.size, 1, none⟩ = some (.int .i64 b) := cell_below (by go_cell) hb
  have c2 : w1.cell? ⟨w.heap.size, 2, none⟩ = some (.int .i64 p) := cell_below (by go_cell) hb
  have c3 : w1.cell? ⟨w.heap.size, 3, none⟩ = some (.int .i64 q) := cell_below (by go_cell) hb
  have c4 : w1.cell? ⟨w.heap.size + 1, 0, none⟩ = some (.int .i64 ax) := cell_below (by go_cell) hb
  have c5 : w1.cell? ⟨w.heap.size + 1, 1, none⟩ = some (.int .i64 ay) := cell_below (by go_cell) hb
  have c6 : w1.cell? ⟨w.heap.size + 2, 0, none⟩ = some (.int .i64 bx) := cell_below (by go_cell) hb
  have c7 : w1.cell? ⟨w.heap.size + 2, 1, none⟩ = some (.int .i64 cy) := cell_below (by go_cell) hb
  have AC := Lib.hid (Below.next (a := w) (by go_grown) hb)
  clear hb
  go_wp2_with (go_at_call 73; (refine (arepts_any _ _ _ (pts_two _ _ _ _ _ _ (by simp))).mono ?_); rintro e w2 ⟨rfl, hb2⟩; rw [E2.out]; refine Hid.out ?_)
  refine Lib.hid ?_
  have hb : Below w1.heap.size w1 w2 := Below.next (a := w1) (show Below w1.heap.size w1 _ from (Below.refl _ _).alloc (Nat.le_refl _) _) hb2
  clear hb2
  replace c0 := cell_below c0 hb
  replace c1 := cell_below c1 hb
  replace c2 := cell_below c2 hb
  replace c3 := cell_below c3 hb
  replace c4 := cell_below c4 hb
  replace c5 := cell_below c5 hb
  replace c6 := cell_below c6 hb
  replace c7 := cell_below c7 hb
  replace AC := Lib.hid (Below.next AC.out hb)
  clear hb
  go_wp2_with (go_at_call 69; (refine (HW.out _).mono ?_); rintro e w3 ⟨rfl, hb⟩; refine Hid.out ?_)
  refine Lib.hid ?_
  replace c0 := cell_below c0 hb
  replace c1 := cell_below c1 hb
  replace c2 := cell_below c2 hb
  replace c3 := cell_below c3 hb
  replace c4 := cell_below c4 hb
  replace c5 := cell_below c5 hb
  replace c6 := cell_below c6 hb
  replace c7 := cell_below c7 hb
  replace AC := Lib.hid (Below.next AC.out hb)
  clear hb
  go_wp2
  go_ret2
  exact ⟨rfl, AC.out⟩

set_option maxRecDepth 100000 in
set_option maxHeartbeats 1000000 in
theorem heard_yes (k b p q ax ay bx cy v : Int) (ea ep eq : Addr) (w : World) (hF : FogsAt w) (hE : FogErrs ea ep eq w) (hT : SndsAt w) (h1 : fogOk k b p q = true) (h2 : (okB (ax, ay) && okB (bx, cy)) = true) (h3 : inB (-3) 3 [v] = true) (D : Int) (hD : Root (sqd ax ay bx cy) D) :
    Calls Tryd.prog 37 #[fogV k b p q, .agg #[.int .i64 ax, .int .i64 ay], .agg #[.int .i64 bx, .int .i64 cy], .int .i64 v] w (RetB (decide (D ≤ sndV q v)) 0 w) := by
  have HV := Lib.hid (fun w' (h : Below w.heap.size w w') => h1 ▸ validfog_any k b p q ea ep eq w' (hF.below h) (hE.below h))
  have E2 := Lib.hid (show [(ax, ay), (bx, cy)].all okB = true by rw [show [(ax, ay), (bx, cy)].all okB = (okB (ax, ay) && okB (bx, cy)) by simp]; exact h2)
  have HW := Lib.hid (fun w => h3 ▸ iswind_any v w)
  have HD := Lib.hid (fun w => distance_at h2 hD w)
  obtain ⟨_, _, q0, q1⟩ := ok_parts h1
  obtain ⟨v0, v1⟩ := inb_yes h3
  have HR := Lib.hid (fun w' h => sndrange_any q v w' h q0 q1 v0 v1)
  generalize sndV q v = z at *
  clear h1 h2 h3 hF hE hD q0 q1 v0 v1
  go_enter Tryd.func37, Tryd.ntmps37
  go_wp2_with (go_at_call 19; (refine (HV.out _ (by go_grown)).mono ?_); rintro e w1 ⟨rfl, hb⟩; refine Hid.out ?_)
  refine Lib.hid ?_
  have c0 : w1.cell? ⟨w.heap.size, 0, none⟩ = some (.int .i64 k) := cell_below (by go_cell) hb
  have c1 : w1.cell? ⟨w.heap.size, 1, none⟩ = some (.int .i64 b) := cell_below (by go_cell) hb
  have c2 : w1.cell? ⟨w.heap.size, 2, none⟩ = some (.int .i64 p) := cell_below (by go_cell) hb
  have c3 : w1.cell? ⟨w.heap.size, 3, none⟩ = some (.int .i64 q) := cell_below (by go_cell) hb
  have c4 : w1.cell? ⟨w.heap.size + 1, 0, none⟩ = some (.int .i64 ax) := cell_below (by go_cell) hb
  have c5 : w1.cell? ⟨w.heap.size + 1, 1, none⟩ = some (.int .i64 ay) := cell_below (by go_cell) hb
  have c6 : w1.cell? ⟨w.heap.size + 2, 0, none⟩ = some (.int .i64 bx) := cell_below (by go_cell) hb
  have c7 : w1.cell? ⟨w.heap.size + 2, 1, none⟩ = some (.int .i64 cy) := cell_below (by go_cell) hb
  have AC := Lib.hid (Below.next (a := w) (by go_grown) hb)
  clear hb
  go_wp2_with (go_at_call 73; (refine (arepts_any _ _ _ (pts_two _ _ _ _ _ _ (by simp))).mono ?_); rintro e w2 ⟨rfl, hb2⟩; rw [E2.out]; refine Hid.out ?_)
  refine Lib.hid ?_
  have hb : Below w1.heap.size w1 w2 := Below.next (a := w1) (show Below w1.heap.size w1 _ from (Below.refl _ _).alloc (Nat.le_refl _) _) hb2
  clear hb2
  replace c0 := cell_below c0 hb
  replace c1 := cell_below c1 hb
  replace c2 := cell_below c2 hb
  replace c3 := cell_below c3 hb
  replace c4 := cell_below c4 hb
  replace c5 := cell_below c5 hb
  replace c6 := cell_below c6 hb
  replace c7 := cell_below c7 hb
  replace AC := Lib.hid (Below.next AC.out hb)
  clear hb
  go_wp2_with (go_at_call 69; (refine (HW.out _).mono ?_); rintro e w3 ⟨rfl, hb⟩; refine Hid.out ?_)
  refine Lib.hid ?_
  replace c0 := cell_below c0 hb
  replace c1 := cell_below c1 hb
  replace c2 := cell_below c2 hb
  replace c3 := cell_below c3 hb
  replace c4 := cell_below c4 hb
  replace c5 := cell_below c5 hb
  replace c6 := cell_below c6 hb
  replace c7 := cell_below c7 hb
  replace AC := Lib.hid (Below.next AC.out hb)
  clear hb
  go_wp2
  obtain ⟨S, hcl, hS0, k3, k4, k5, k6, k7, kT, kB⟩ := clx5 c3 c4 c5 c6 c7 SndsAt (fun _ _ h hb => h.below hb) (hT.below AC.out) AC.out
  have hne : Nonempty (Clx S) := ⟨⟨_, hS0⟩⟩
  clear c0 c1 c2 c3 c4 c5 c6 c7 AC hT HV
  refine wp_region_clx S (by kernel_rfl) (by kernel_rfl) hS0 ?_
  repeat (go_big_quiet_step (first
    | (go_at_call 74; exact Clx.call hcl _ (HD.out _))
    | (go_at_call 70; exact Clx.call hcl _ (HR.out _ (kT _)))))
  refine wpQuiet_nil ?_
  intro _ hw'
  obtain ⟨x, rfl⟩ := hw'
  go_wp2_with (fail)
  go_ret2
  exact ⟨rfl, kB x⟩

theorem heard_any (k b p q ax ay bx cy v : Int) (ea ep eq : Addr) (w : World) (hF : FogsAt w) (hE : FogErrs ea ep eq w) (hT : SndsAt w) (D : Int) (hD : (okB (ax, ay) && okB (bx, cy)) = true → Root (sqd ax ay bx cy) D) :
    Calls Tryd.prog 37 #[fogV k b p q, .agg #[.int .i64 ax, .int .i64 ay], .agg #[.int .i64 bx, .int .i64 cy], .int .i64 v] w (RetB (hrdA (fogOk k b p q) (okB (ax, ay) && okB (bx, cy)) (inB (-3) 3 [v]) D q v) (hrdC (fogOk k b p q) (okB (ax, ay) && okB (bx, cy)) (inB (-3) 3 [v])) w) := by
  cases h1 : fogOk k b p q
  · exact heard_no1 k b p q ax ay bx cy v ea ep eq w hF hE h1
  cases h2 : (okB (ax, ay) && okB (bx, cy))
  · exact heard_no2 k b p q ax ay bx cy v ea ep eq w hF hE h1 h2
  cases h3 : inB (-3) 3 [v]
  · exact heard_no3 k b p q ax ay bx cy v ea ep eq w hF hE h1 h2 h3
  · have := heard_yes k b p q ax ay bx cy v ea ep eq w hF hE hT h1 h2 h3 D (hD h2)
    simpa [hrdA, hrdC] using this

end Go.Proofs.YtbfhnfoaipaljaaDoor
