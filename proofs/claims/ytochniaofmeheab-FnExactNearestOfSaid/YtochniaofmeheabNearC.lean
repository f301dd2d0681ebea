/- The closure of NearestOf. -/
import Derived.Test.YtochniaofmeheabSq
import Derived.Deep.RegionHeld3
namespace Go.Proofs.Ytochniaofmeheab
open Go.ChangeShapes Go.WideShapes Go.ChangeAt Go.RowKit Pm

theorem keep5 {w0 w w1 : World} {a0 a1 a2 a3 a4 : Addr} {v0 v1 v2 v3 v4 : Value} (hb : Below w.heap.size w w1) (h : w.cell? a0 = some v0 ∧ w.cell? a1 = some v1 ∧ w.cell? a2 = some v2 ∧ w.cell? a3 = some v3 ∧ w.cell? a4 = some v4 ∧ Below w0.heap.size w0 w) : w1.cell? a0 = some v0 ∧ w1.cell? a1 = some v1 ∧ w1.cell? a2 = some v2 ∧ w1.cell? a3 = some v3 ∧ w1.cell? a4 = some v4 ∧ Below w0.heap.size w0 w1 := by
  obtain ⟨h0, h1, h2, h3, h4, hB⟩ := h
  exact ⟨cell_below h0 hb, cell_below h1 hb, cell_below h2 hb, cell_below h3 hb, cell_below h4 hb, Below.next hB hb⟩
theorem drew5 {w0 w : World} {a0 a1 a2 a3 a4 : Addr} {v0 v1 v2 v3 v4 : Value} (h : w.cell? a0 = some v0 ∧ w.cell? a1 = some v1 ∧ w.cell? a2 = some v2 ∧ w.cell? a3 = some v3 ∧ w.cell? a4 = some v4 ∧ Below w0.heap.size w0 w) : w.drew.cell? a0 = some v0 ∧ w.drew.cell? a1 = some v1 ∧ w.drew.cell? a2 = some v2 ∧ w.drew.cell? a3 = some v3 ∧ w.drew.cell? a4 = some v4 ∧ Below w0.heap.size w0 w.drew := by
  obtain ⟨h0, h1, h2, h3, h4, hB⟩ := h
  exact ⟨h0, h1, h2, h3, h4, hB.drew⟩
theorem keepB5 {w0 w : World} {a0 a1 a2 a3 a4 : Addr} {v0 v1 v2 v3 v4 : Value} (h : w.cell? a0 = some v0 ∧ w.cell? a1 = some v1 ∧ w.cell? a2 = some v2 ∧ w.cell? a3 = some v3 ∧ w.cell? a4 = some v4 ∧ Below w0.heap.size w0 w) : Below w0.heap.size w0 w := h.2.2.2.2.2

theorem near_any (g h b off n cap k : Nat) (px py x y : Int) (w : World) (hp : Vd px py) (hq : Vd x y) (hk : k < n) (_hn : n ≤ 64)
    (c0 : w.cell? ⟨g, 0, none⟩ = some (.int .i64 px)) (c1 : w.cell? ⟨g, 1, none⟩ = some (.int .i64 py)) (c2 : w.cell? ⟨h, 0, none⟩ = some (.slice (some ⟨b, off, none⟩) n cap))
    (c3 : w.cell? ⟨b, off + k * 2, none⟩ = some (.int .i64 x)) (c4 : w.cell? ⟨b, off + k * 2 + 1, none⟩ = some (.int .i64 y)) :
    Calls Try.prog 14 #[.int .i64 k, .pointer (some ⟨g, 0, none⟩), .pointer (some ⟨h, 0, none⟩)] w fun e w' => e = .returned (.int .i64 (-(sqd px py x y))) ∧ Below w.heap.size w w' := by
  have hk2 : (k : Int) < (n : Int) := by omega
  have HP := Lib.hid hp
  have HQ := Lib.hid hq
  have hsb := sqd_bd hp hq
  have hsn := sqd_nn px py x y
  have he : (x - px) * (x - px) + (y - py) * (y - py) = sqd px py x y := by unfold sqd; grind
  have HE := Lib.hid he
  obtain ⟨p0, p1, p2, p3⟩ := hp
  obtain ⟨q0, q1, q2, q3⟩ := hq
  clear he
  go_enter Try.func14, Try.ntmps14
  go_wp2_with (fail)
  go_region_held3 (fun w' => w'.cell? ⟨g, 0, none⟩ = some (.int .i64 px) ∧ w'.cell? ⟨g, 1, none⟩ = some (.int .i64 py) ∧ w'.cell? ⟨h, 0, none⟩ = some (.slice (some ⟨b, off, none⟩) n cap) ∧ w'.cell? ⟨b, off + k * 2, none⟩ = some (.int .i64 x) ∧ w'.cell? ⟨b, off + k * 2 + 1, none⟩ = some (.int .i64 y) ∧ Below w.heap.size w w')
    (first | assumption | exact keep5 (by assumption) (by assumption) | exact drew5 (by assumption) | (refine ⟨?_, ?_, ?_, ?_, ?_, ?_⟩ <;> (first | (go_cell; done) | (go_grown; done))))
    (first
      | (go_at_call 15; refine (wayto_any _ _ _ _ _ HP.out HQ.out).mono ?_; rintro e w1 ⟨rfl, hb⟩)
      | (go_at_call 16; refine (square_any _ _ _ (by omega) (by omega) (by omega) (by omega)).mono ?_; rintro e w1 ⟨rfl, hb⟩; rw [HE.out]))
  go_wp2
  go_ret
  exact ⟨ret_i (IntWalk.i64_in _ ⟨by omega, by omega⟩), keepB5 (by assumption)⟩
end Go.Proofs.Ytochniaofmeheab
