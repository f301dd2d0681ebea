/- The law of HeardFrom. -/
import Derived.Test.YtbfhnfoaipaljaaDoorHrdS
import Derived.Test.YtbfhnfoaipaljaaDoorFogA
import Derived.Deep.RegionHeld3
namespace Go.Proofs.YtbfhnfoaipaljaaDoor
open Go.ChangeShapes Go.WideShapes Go.ChangeAt Go.RowKit Pm

theorem clx8 {w0 w : World} {a0 a1 a2 a3 a4 a5 a6 a7 : Addr} {v0 v1 v2 v3 v4 v5 v6 v7 : Value} {R : World → Prop} (h0 : w.cell? a0 = some v0) (h1 : w.cell? a1 = some v1) (h2 : w.cell? a2 = some v2) (h3 : w.cell? a3 = some v3) (h4 : w.cell? a4 = some v4) (h5 : w.cell? a5 = some v5) (h6 : w.cell? a6 = some v6) (h7 : w.cell? a7 = some v7) (hR : ∀ w1 w2, R w1 → Below w1.heap.size w1 w2 → R w2) (hw : R w) (hB : Below w0.heap.size w0 w) :
    ∃ S : World → Prop, (∀ w1 w2, S w1 → Below w1.heap.size w1 w2 → S w2) ∧ S w.drew ∧ (∀ p : Clx S, p.v.cell? a0 = some v0) ∧ (∀ p : Clx S, p.v.cell? a1 = some v1) ∧ (∀ p : Clx S, p.v.cell? a2 = some v2) ∧ (∀ p : Clx S, p.v.cell? a3 = some v3) ∧ (∀ p : Clx S, p.v.cell? a4 = some v4) ∧ (∀ p : Clx S, p.v.cell? a5 = some v5) ∧ (∀ p : Clx S, p.v.cell? a6 = some v6) ∧ (∀ p : Clx S, p.v.cell? a7 = some v7) ∧ (∀ p : Clx S, R p.v) ∧ ∀ p : Clx S, Below w0.heap.size w0 p.v :=
  ⟨fun w' => w'.cell? a0 = some v0 ∧ w'.cell? a1 = some v1 ∧ w'.cell? a2 = some v2 ∧ w'.cell? a3 = some v3 ∧ w'.cell? a4 = some v4 ∧ w'.cell? a5 = some v5 ∧ w'.cell? a6 = some v6 ∧ w'.cell? a7 = some v7 ∧ R w' ∧ Below w0.heap.size w0 w',
    fun _ _ ⟨g0, g1, g2, g3, g4, g5, g6, g7, gR, gB⟩ hb => ⟨cell_below g0 hb, cell_below g1 hb, cell_below g2 hb, cell_below g3 hb, cell_below g4 hb, cell_below g5 hb, cell_below g6 hb, cell_below g7 hb, hR _ _ gR hb, Below.next gB hb⟩,
    ⟨h0, h1, h2, h3, h4, h5, h6, h7, hR _ _ hw (Below.refl _ _).drew, hB.drew⟩, fun p => p.h.1, fun p => p.h.2.1, fun p => p.h.2.2.1, fun p => p.h.2.2.2.1, fun p => p.h.2.2.2.2.1, fun p => p.h.2.2.2.2.2.1, fun p => p.h.2.2.2.2.2.2.1, fun p => p.h.2.2.2.2.2.2.2.1, fun p => p.h.2.2.2.2.2.2.2.2.1, fun p => p.h.2.2.2.2.2.2.2.2.2⟩
set_option maxRecDepth 100000 in
set_option maxHeartbeats 2000000 in
theorem heardfrom_law (k b p q ax ay bx cy v : Int) (w : World) (hL : laidMetH Tryd.prog Rows.fnExactHeardFromRow.laid w) :
    Calls Tryd.prog 11 #[.agg #[.int .i64 k, .int .i64 b, .int .i64 p, .int .i64 q], .agg #[.int .i64 ax, .int .i64 ay], .agg #[.int .i64 bx, .int .i64 cy], .int .i64 v] w fun e w' => e = .returned (.bool true) ∧ Below w.heap.size w w' := by
  rw [MakeChecks.laidMetH_plain _ _ _ (by kernel_rfl)] at hL
  have HF := Lib.hid (fogs_in hL (by kernel_rfl))
  obtain ⟨ea, ep, eq, hE⟩ := errs_in hL (by kernel_rfl) (by kernel_rfl)
  have HE := Lib.hid hE
  clear hE
  have HN := Lib.hid (snds_in hL (by kernel_rfl))
  clear hL
  obtain ⟨D, hD⟩ := dist_is ax ay bx cy
  have HS := Lib.hid (fun w => sheard_any k b p q ax ay bx cy v w D hD)
  have HI := Lib.hid (fun w hF hE hS => heard_any k b p q ax ay bx cy v ea ep eq w hF hE hS D hD)
  obtain ⟨a, ha⟩ : ∃ x, x = hrdA (fogOk k b p q) (okB (ax, ay) && okB (bx, cy)) (inB (-3) 3 [v]) D q v := ⟨_, rfl⟩
  rw [← ha] at HS HI
  obtain ⟨c, hc⟩ : ∃ x, x = hrdC (fogOk k b p q) (okB (ax, ay) && okB (bx, cy)) (inB (-3) 3 [v]) := ⟨_, rfl⟩
  rw [← hc] at HS HI
  clear ha hc hD
  have HT := Lib.hid (fun w => tofog_any k b p q w)
  have H1 := Lib.hid (fun w => topoint_any ax ay w)
  have H2 := Lib.hid (fun w => topoint_any bx cy w)
  go_enter Tryd.func11, Tryd.ntmps11
  go_wp2_with (fail)
  obtain ⟨S, hcl, hS0, k0, k1, k2, k3, k4, k5, k6, k7, kR, kB⟩ := clx8 (w0 := w) (R := fun w' => FogsAt w' ∧ FogErrs ea ep eq w' ∧ SndsAt w') (w := ((w.alloc (.cells #[.int .i64 k, .int .i64 b, .int .i64 p, .int .i64 q] 25)).alloc (.cells #[.int .i64 ax, .int .i64 ay] 45)).alloc (.cells #[.int .i64 bx, .int .i64 cy] 45)) (a0 := ⟨w.heap.size, 0, none⟩) (v0 := .int .i64 k) (a1 := ⟨w.heap.size, 1, none⟩) (v1 := .int .i64 b) (a2 := ⟨w.heap.size, 2, none⟩) (v2 := .int .i64 p) (a3 := ⟨w.heap.size, 3, none⟩) (v3 := .int .i64 q) (a4 := ⟨w.heap.size + 1, 0, none⟩) (v4 := .int .i64 ax) (a5 := ⟨w.heap.size + 1, 1, none⟩) (v5 := .int .i64 ay) (a6 := ⟨w.heap.size + 2, 0, none⟩) (v6 := .int .i64 bx) (a7 := ⟨w.heap.size + 2, 1, none⟩) (v7 := .int .i64 cy) (by go_cell) (by go_cell) (by go_cell) (by go_cell) (by go_cell) (by go_cell) (by go_cell) (by go_cell) (fun _ _ h hb => ⟨h.1.below hb, h.2.1.below hb, h.2.2.below hb⟩) ⟨HF.out.below (by go_grown), HE.out.below (by go_grown), HN.out.below (by go_grown)⟩ (by go_grown)
  have hne : Nonempty (Clx S) := ⟨⟨_, hS0⟩⟩
  refine wp_region_clx S (by kernel_rfl) (by kernel_rfl) hS0 ?_
  repeat (go_big_quiet_step (first
    | (go_at_call 18; exact Clx.call hcl _ (HT.out _))
    | (go_at_call 36; first | (with_reducible exact Clx.call hcl _ (H1.out _)) | (with_reducible exact Clx.call hcl _ (H2.out _)))
    | (go_at_call 35; exact Clx.call hcl _ (HS.out _))))
  refine wpQuiet_nil ?_
  intro _ hw'
  obtain ⟨x, rfl⟩ := hw'
  have C0 := k0 x
  have C1 := k1 x
  have C2 := k2 x
  have C3 := k3 x
  have C4 := k4 x
  have C5 := k5 x
  have C6 := k6 x
  have C7 := k7 x
  have CR := kR x
  have CB := Lib.hid (kB x)
  clear hS0 kR kB k0 k1 k2 k3 k4 k5 k6 k7 hne hcl
  go_wp2_with (fail)
  obtain ⟨S, hcl, hS0, k0, k1, k2, k3, k4, k5, k6, k7, kR, kB⟩ := clx8 (w0 := w) (R := fun w' => FogsAt w' ∧ FogErrs ea ep eq w' ∧ SndsAt w') C0 C1 C2 C3 C4 C5 C6 C7 (fun _ _ h hb => ⟨h.1.below hb, h.2.1.below hb, h.2.2.below hb⟩) CR CB.out
  have hne : Nonempty (Clx S) := ⟨⟨_, hS0⟩⟩
  clear C0 C1 C2 C3 C4 C5 C6 C7 CR CB
  refine wp_region_clx S (by kernel_rfl) (by kernel_rfl) hS0 ?_
  repeat (go_big_quiet_step (first
    | (go_at_call 18; exact Clx.call hcl _ (HT.out _))
    | (go_at_call 36; first | (with_reducible exact Clx.call hcl _ (H1.out _)) | (with_reducible exact Clx.call hcl _ (H2.out _)))
    | (go_at_call 37; exact Clx.call hcl _ (HI.out _ (kR _).1 (kR _).2.1 (kR _).2.2))))
  refine wpQuiet_nil ?_
  intro _ hw'
  obtain ⟨y, rfl⟩ := hw'
  go_wp2_with (fail)
  go_ret
  exact ⟨rfl, kB y⟩
end Go.Proofs.YtbfhnfoaipaljaaDoor
