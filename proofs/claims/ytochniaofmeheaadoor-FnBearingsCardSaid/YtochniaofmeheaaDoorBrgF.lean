/- Facts for the law of bearings: what a move by bearing and distance leads near to. -/
import Derived.Test.YtochniaofmeheaaDoorDistT
import Derived.Test.YtochniaofmeheaaDoorBearI
import Derived.Test.YtochniaofmeheaaDoorMvI
import Derived.Test.YtochniaofmeheaaDoorTurn
import Derived.Test.YtochniaofmeheaaDoorDrwC
namespace Go.Proofs.YtochniaofmeheaaDoor
open Go.ChangeShapes Go.WideShapes Go.ChangeAt Go.RowKit Pm

theorem bear_lim {ax ay bx cy r : Int} (h : BearIs ax ay bx cy r) : 0 ≤ r ∧ r ≤ 359 := by
  unfold BearIs at h
  split at h
  · exact ⟨h.1, by have := h.2.1; omega⟩
  · omega
theorem dist_lim {ax ay bx cy r : Int} (h : DistIs ax ay bx cy r) : 0 ≤ r ∧ r ≤ 3037000499 := by
  unfold DistIs at h
  split at h
  · exact ⟨h.1, h.2.1⟩
  · omega
theorem back_turn {ax ay bx cy x y : Int} (ha : okB (ax, ay) = true) (hb : okB (bx, cy) = true) (hn : ax ≠ bx ∨ ay ≠ cy) (hx : BearIs ax ay bx cy x) (hy : BearIs bx cy ax ay y) : 179 ≤ turnR x y := by
  unfold BearIs at hx hy
  rw [if_pos (by rw [ha, hb]; rfl)] at hx
  rw [if_pos (by rw [ha, hb]; rfl)] at hy
  rw [show ax - bx = -(bx - ax) by omega, show ay - cy = -(cy - ay) by omega] at hy
  exact best_back (by omega) hx hy
theorem near_dist {ax ay bx cy x d r : Int} (ha : okB (ax, ay) = true) (hb : okB (bx, cy) = true) (hx : BearIs ax ay bx cy x) (hd : DistIs ax ay bx cy d) (hE : mvE ax ay x d = 0) (hr : DistIs (mvPX ax ay x d) (mvPY ax ay x d) bx cy r) : r ≤ d / 100 + 3 := by
  unfold BearIs at hx
  rw [if_pos (by rw [ha, hb]; rfl)] at hx
  unfold DistIs at hd
  rw [if_pos (by rw [ha, hb]; rfl)] at hd
  obtain ⟨e1, e2⟩ := mvP_yes hE
  rw [e1, e2] at hr
  obtain ⟨d0, _, _, d3⟩ := hd
  obtain ⟨k1, k2⟩ := d3 (sqd_nn _ _ _ _)
  have es : sqd ax ay bx cy = (bx - ax) * (bx - ax) + (cy - ay) * (cy - ay) := by unfold sqd; grind
  rw [es] at k1 k2
  obtain ⟨tx0, tx1⟩ := dnear (d * sinR x) 1000000 (by omega)
  obtain ⟨ty0, ty1⟩ := dnear (d * cosR x) 1000000 (by omega)
  have hn := move_near hx d0 k1 k2 tx0 tx1 ty0 ty1
  have h0 : 0 ≤ d / 100 + 4 := by omega
  unfold DistIs at hr
  split at hr
  · obtain ⟨r0, _, _, r3⟩ := hr
    have q1 := (r3 (sqd_nn _ _ _ _)).1
    have eq : sqd (mvX ax x d) (mvY ay x d) bx cy = (bx - ax - dvr (d * sinR x) 1000000) * (bx - ax - dvr (d * sinR x) 1000000) + (cy - ay - dvr (d * cosR x) 1000000) * (cy - ay - dvr (d * cosR x) 1000000) := by
      unfold sqd mvX mvY; grind
    rw [eq] at q1
    have := sq_lt h0 (Int.lt_of_le_of_lt q1 hn)
    omega
  · omega

theorem long_is (a : Option Addr) (l c : Nat) (w : World) :
    Calls Tryd.prog 8 #[.slice a l c] w fun e w' => e = .returned (.bool (decide ((1048576 : Int) < (l : Int)))) ∧ w = w' := by
  go_enter Tryd.func8, Tryd.ntmps8
  go_wp2
  go_ret
  exact ⟨rfl, rfl⟩
end Go.Proofs.YtochniaofmeheaaDoor
