/- Moves: what they are; the model's step. -/
import Derived.Test.YtochniaofmeheaaDoorSin
import Derived.Test.YtochniaofmeheaaDoorReg
import Derived.Test.YtochniaofmeheaaDoorGeoN
import Derived.Test.YtochniaofmeheaaDoorGeoP
import Derived.Test.YtochniaofmeheaaDoorDivS
import Derived.Test.YtochniaofmeheaaDoorWay
import Derived.Deep.RegionHeld3
namespace Go.Proofs.YtochniaofmeheaaDoor
open Go.ChangeShapes Go.WideShapes Go.ChangeAt Go.RowKit Pm

def mvX (px be d : Int) : Int := px + dvr (d * sinR be) 1000000
def mvY (py be d : Int) : Int := py + dvr (d * cosR be) 1000000
def mvE (px py be d : Int) : Int := if inB 0 200000 [px, py] = true then (if inB 0 300000 [d] = true then (if inB 0 200000 [mvX px be d, mvY py be d] = true then 0 else 6) else 2) else 1
def mvPX (px py be d : Int) : Int := if mvE px py be d = 0 then mvX px be d else 0
def mvPY (px py be d : Int) : Int := if mvE px py be d = 0 then mvY py be d else 0
theorem mvE1 {px py be d : Int} (h : inB 0 200000 [px, py] = false) : mvE px py be d = 1 := by unfold mvE; rw [if_neg (by simp [h])]
theorem mvE2 {px py be d : Int} (h : inB 0 200000 [px, py] = true) (k : inB 0 300000 [d] = false) : mvE px py be d = 2 := by unfold mvE; rw [if_pos h, if_neg (by simp [k])]
theorem mvE6 {px py be d : Int} (h : inB 0 200000 [px, py] = true) (k : inB 0 300000 [d] = true) (l : inB 0 200000 [mvX px be d, mvY py be d] = false) : mvE px py be d = 6 := by unfold mvE; rw [if_pos h, if_pos k, if_neg (by simp [l])]
theorem mvE0 {px py be d : Int} (h : inB 0 200000 [px, py] = true) (k : inB 0 300000 [d] = true) (l : inB 0 200000 [mvX px be d, mvY py be d] = true) : mvE px py be d = 0 := by unfold mvE; rw [if_pos h, if_pos k, if_pos l]
theorem mvP_no {px py be d : Int} (h : mvE px py be d ≠ 0) : mvPX px py be d = 0 ∧ mvPY px py be d = 0 := by unfold mvPX mvPY; rw [if_neg h, if_neg h]; exact ⟨rfl, rfl⟩
theorem mvP_yes {px py be d : Int} (h : mvE px py be d = 0) : mvPX px py be d = mvX px be d ∧ mvPY px py be d = mvY py be d := by unfold mvPX mvPY; rw [if_pos h, if_pos h]; exact ⟨rfl, rfl⟩
theorem ret_m {x y c x' y' c' : Int} (h1 : x = x') (h2 : y = y') (h3 : c = c') :
    Ending.returned (.tuple #[.agg #[.int .i64 x, .int .i64 y], .int .i64 c]) = Ending.returned (.tuple #[.agg #[.int .i64 x', .int .i64 y'], .int .i64 c']) := by rw [h1, h2, h3]

/-- The bounds of the step's numbers. -/
theorem mv_bd {px d : Int} (h0 : 0 ≤ px) (h1 : px ≤ 200000) (d0 : 0 ≤ d) (d1 : d ≤ 300000) (s : Int) (s0 : -1000000 ≤ s) (s1 : s ≤ 1000000) :
    (-300000000000 ≤ d * s ∧ d * s ≤ 300000000000) ∧ -400000 ≤ px + dvr (d * s) 1000000 ∧ px + dvr (d * s) 1000000 ≤ 600000 := by
  obtain ⟨m0, m1⟩ := mul_bd (a := d) (b := s) (A := 300000) (B := 1000000) (by omega) d1 s0 s1
  have := dnear (d * s) 1000000 (by omega)
  omega

set_option maxHeartbeats 2000000 in
theorem smove_step (px py be d : Int) (w : World) (hp : Vd px py) (d0 : 0 ≤ d) (d1 : d ≤ 300000) :
    Calls Tryd.prog 43 #[.agg #[.int .i64 px, .int .i64 py], .int .i64 be, .int .i64 d] w fun e w' => e = .returned (.agg #[.int .i64 (mvX px be d), .int .i64 (mvY py be d)]) ∧ Below w.heap.size w w' := by
  obtain ⟨p0, p1, p2, p3⟩ := hp
  obtain ⟨⟨x0, x1⟩, x2, x3⟩ := mv_bd p0 p1 d0 d1 (sinR be) (sin_bd be).1 (sin_bd be).2
  have hc := sin_bd (be + 90)
  rw [← cos_eq] at hc
  obtain ⟨⟨y0, y1⟩, y2, y3⟩ := mv_bd p2 p3 d0 d1 (cosR be) hc.1 hc.2
  have wr1 : IntKind.i64.wrap (d * sinR be) = d * sinR be := IntWalk.i64_in _ ⟨by omega, by omega⟩
  have wr2 : IntKind.i64.wrap (d * cosR be) = d * cosR be := IntWalk.i64_in _ ⟨by omega, by omega⟩
  have wr3 : IntKind.i64.wrap (px + dvr (d * sinR be) 1000000) = px + dvr (d * sinR be) 1000000 := IntWalk.i64_in _ ⟨by omega, by omega⟩
  have wr4 : IntKind.i64.wrap (py + dvr (d * cosR be) 1000000) = py + dvr (d * cosR be) 1000000 := IntWalk.i64_in _ ⟨by omega, by omega⟩
  clear hc p0 p1 p2 p3 d0 d1 x2 x3 y2 y3
  go_enter Tryd.func43, Tryd.ntmps43
  go_wp2_with (fail)
  go_region_held3 (fun w' => w'.cell? ⟨w.heap.size, 0, none⟩ = some (.int .i64 px) ∧ w'.cell? ⟨w.heap.size, 1, none⟩ = some (.int .i64 py) ∧ Below w.heap.size w w')
    (first | assumption | exact keep2 (by assumption) (by assumption) | exact drew2 (by assumption) | exact keepA2 (by assumption) | exact drew2 (keepA2 (by assumption)) | ((refine keepP2 ?_ ?_ ?_ (by assumption)) <;> (first | omega | (simp; done) | (simp; omega))) | ((refine keepX2 ?_ ?_ ?_ (by assumption)) <;> (first | omega | (simp; done) | (simp; omega))) | ((refine drew2 (keepX2 ?_ ?_ ?_ (by assumption))) <;> (first | omega | (simp; done) | (simp; omega))) | (refine ⟨?_, ?_, ?_⟩ <;> (first | (go_cell; done) | (go_grown; done))))
    (first
      | (go_at_call 39; refine (ssine_any _ _).mono ?_; rintro e w1 ⟨rfl, hb⟩; have sz := hb.size; (try simp at sz); (first | (have hq := new2 hb; obtain ⟨q0, q1, q2, q3, q4⟩ := hq) | (have hq := new2d hb; obtain ⟨q0, q1, q2, q3, q4⟩ := hq) | (have hq := carry2 hb q0 q1 q2 q3 q4; obtain ⟨q0, q1, q2, q3, q4⟩ := hq) | skip); (try simp only [World.size_alloc] at q0 q1 q2 q3 q4))
      | (go_at_call 40; refine (scosine_any _ _).mono ?_; rintro e w1 ⟨rfl, hb⟩; have sz := hb.size; (try simp at sz); (first | (have hq := new2 hb; obtain ⟨q0, q1, q2, q3, q4⟩ := hq) | (have hq := new2d hb; obtain ⟨q0, q1, q2, q3, q4⟩ := hq) | (have hq := carry2 hb q0 q1 q2 q3 q4; obtain ⟨q0, q1, q2, q3, q4⟩ := hq) | skip); (try simp only [World.size_alloc] at q0 q1 q2 q3 q4))
      | (go_at_call 58; refine (sdiv_any _ _ _ (by omega) (by omega) (by omega) (by omega) (by omega)).mono ?_; rintro e w1 ⟨rfl, rfl⟩))
  go_split_ands
  go_wp2
  refine bodyPost_ret (v := .agg #[.int .i64 (mvX px be d), .int .i64 (mvY py be d)]) (by simp [results, Tryd.results43, go_sem, mvX, mvY, *]) rfl ⟨rfl, by go_grown⟩
end Go.Proofs.YtochniaofmeheaaDoor
