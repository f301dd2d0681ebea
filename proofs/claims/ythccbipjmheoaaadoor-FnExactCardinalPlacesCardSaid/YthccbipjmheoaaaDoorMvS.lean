/- Moves: what they are; the model's step. -/
import Derived.Test.YthccbipjmheoaaaDoorSin
import Derived.Test.YthccbipjmheoaaaDoorReg
import Derived.Test.YthccbipjmheoaaaDoorGeoN
import Derived.Test.YthccbipjmheoaaaDoorGeoP
import Derived.Test.YthccbipjmheoaaaDoorDivS
import Derived.Test.YthccbipjmheoaaaDoorWay
import Derived.Deep.RegionHeld3
namespace Go.Proofs.YthccbipjmheoaaaDoor
open Go.ChangeShapes Go.WideShapes Go.ChangeAt Go.RowKit Pm

def mvX (px be d : Int) : Int := px + dvr (d * sinR be) 1000000
def mvY (py be d : Int) : Int := py + dvr (d * cosR be) 1000000
def mvE (px py be d : Int) : Int := if inB 0 200000 [px, py] = true then (if inB 0 300000 [d] = true then (if inB 0 200000 [mvX px be d, mvY py be d] = true then 0 else 6) else 2) else 1
def mvPX (px py be d : Int) : Int := if mvE px py be d = 0 then mvX px be d else 0
def mvPY (px py be d : Int) : Int := if mvE px py be d = 0 then mvY py be d else 0
theorem mvE1 {px py be d : Int} (h : inB 0 200000 [px, py] = false) : mvE px py be d = 1 := by unfold mvE; rw [if_neg (by simp [h])]
theorem mvE2 {px py be d : Int} (h : inB 0 200000 [px, py] = true) (k : inB 0 300000 [d] = false) : mvE px py be d = 2 := by unfold mvE; rw [if_pos h, if_neg (by simp [k])]
theorem mvE6 {px py be d : Int} (h : inB 0 200000 [px, py] = true) (k : inB 0 300000 [d] = true) (l : inB 0 200000 [mvX px be d, mvY py be d] = false) : mvE px py be d = 6 := by unfold mvE; rw [if_pos h, if_pos k, if_neg (by simp [l])]
theorem mvE0 {px py be d : Int} (h : inB 0 200000 [px, py] = true) (k : inB 0 300000 [d] = true) (l : inB 0 200000 [mvX px be d, mvY py be d] = true) : mvE px py be d = 0 := by unfold mvE; rw [if_pos h, if_pos k, if_pos l]
theorem mvP_no {px py be d : Int} (h : mvE px py be d ≠ 0) : mvPX px py be d = 0 ∧ mvPY px py be d = 0 := by unfold mvPX mvPY; rw [if_neg h, if_neg h]; exact ⟨rfl, rfl⟩
theorem mvP_yes {px py be d : Int} (h : mvE px py be d = 0) : mvPX px py be d = mvX px be d ∧ mvPY px py be d = mvY py be d := by unfold mvPX mvPY; rw [if_pos h, if_pos h]; exact ⟨rfl, rfl⟩
theorem ret_m {x y c x' y' c' : Int} (h1 : x = x') (h2 : y = y') (h3 : c = c') :
    Ending.returned (.tuple #[.agg #[.int .i64 x, .int .i64 y], .int .i64 c]) = Ending.returned (.tuple #[.agg #[.int .i64 x', .int .i64 y'], .int .i64 c']) := by rw [h1, h2, h3]

/-- The bounds of the step's numbers. -/
theorem mv_bd {px d : Int} (h0 : 0 ≤ px) (h1 : px ≤ 200000) (d0 : 0 ≤ d) (d1 : d ≤ 300000) (s : Int) (s0 : -1000000 ≤ s) (s1 : s ≤ 1000000) :
    (-300000000000 ≤ d * s ∧ d * s ≤ 300000000000) ∧ -400000 ≤ px + dvr (d * s) 1000000 ∧ px + dvr (d * s) 1000000 ≤ 600000 := by
  obtain ⟨m0, m1⟩ := mul_bd (a := d) (b := s) (A := 300000) (B := 1000000) (by omega) d1 s0 s1
  have := dnear (d * s) 1000000 (by omega)
  omega

end Go.Proofs.YthccbipjmheoaaaDoor
