/- Plain facts of characters of lights: kinds, groups, times, least periods, phases. No Go in sight. -/
import Derived.Test.YtgcaipjknpcepabDoorMath
namespace Go.Proofs.YtgcaipjknpcepabDoor
open Pm

/-- A character of a light. -/
structure Chr where
  kind : Int
  group : List Int
  letter : List UInt8
  colors : List UInt8
  period : Int

def rankB (c : UInt8) : Int := if c = 87 then 1 else if c = 82 then 2 else if c = 71 then 3 else if c = 89 then 4 else 0
/-- Do the ranks rise, from above p on? -/
def risesB (p : Int) : List UInt8 → Bool
  | [] => true
  | c :: l => decide (p < rankB c) && risesB (rankB c) l
def colorsB (l : List UInt8) : Bool := risesB 0 l && decide (1 ≤ l.length) && decide (l.length ≤ 3)
def sumI : List Int → Int
  | [] => 0
  | a :: l => a + sumI l
def groupSum (g : List Int) : Int := if g = [] then 1 else sumI g
def groupB (g : List Int) : Bool := inB 1 9 g && decide (g.length ≤ 4) && !decide (g = [1]) && decide (groupSum g ≤ 12)
def flashK (k : Int) : Int := if k = 2 then 10 else if k = 5 then 20 else if k = 7 then 2 else 5
def gapK (k : Int) : Int := if k = 2 then 10 else if k = 4 then 15 else if k = 5 then 20 else if k = 7 then 3 else 5
/-- The signs of the letters. -/
def morseT : List (List Int) :=
  [[5,15],[15,5,5,5],[15,5,15,5],[15,5,5],[5],[5,5,15,5],[15,15,5],[5,5,5,5],[5,5],[5,15,15,15],[15,5,15],[5,15,5,5],[15,15],[15,5],[15,15,15],[5,15,15,5],[15,15,5,15],[5,15,5],[5,5,5],[15],[5,5,15],[5,5,5,15],[5,15,15],[15,5,5,15],[15,5,15,15],[15,15,5,5]]
/-- The signs of a letter, and the gaps between them. -/
def spaced : List Int → List Int
  | [] => []
  | [a] => [a]
  | a :: b :: l => a :: 5 :: spaced (b :: l)
def morseOf (l : List UInt8) : List Int := match l with
  | c :: _ => spaced (morseT.getD (c.toNat - 65) [])
  | [] => []
/-- The later flashes of an element, each behind its gap. -/
def more (k : Int) : Nat → List Int
  | 0 => []
  | n + 1 => more k n ++ [gapK k, flashK k]
/-- The flashes of the elements, with the time ahead of each. -/
def bursts (k : Int) : List Int → List Int
  | [] => []
  | a :: l => (gapK k + 20) :: flashK k :: more k (a.toNat - 1) ++ bursts k l
def groupOr (g : List Int) : List Int := if g = [] then [1] else g
/-- The times of a character. -/
def timesOf (c : Chr) : List Int :=
  if c.kind = 8 then morseOf c.letter else (bursts c.kind (groupOr c.group)).tail ++ (if c.letter = [76] then [gapK c.kind, 20] else [])
def restOf (c : Chr) : Int := if c.kind = 6 then 20 else if c.kind = 7 then 10 else if c.kind = 8 then 30 else gapK c.kind + 5 + (if 1 < c.group.length then 20 else 0)
def steadyB (c : Chr) : Bool := decide (c.kind = 1) || ((decide (c.kind = 6) || decide (c.kind = 7)) && decide (c.group = []))
def leastP (c : Chr) : Int := if steadyB c = true then 0 else if c.kind = 3 then 20 else sumI (timesOf c) + restOf c
def letterB (l : List UInt8) : Bool := match l with
  | [x] => decide (65 ≤ x.toNat) && decide (x.toNat ≤ 90)
  | _ => false
/-- Is everything but the period valid? -/
def shapeB (c : Chr) : Bool :=
  inB 1 8 [c.kind] && colorsB c.colors &&
    (if c.kind = 1 ∨ c.kind = 3 then decide (c.group = []) && decide (c.letter = [])
     else if c.kind = 6 ∨ c.kind = 7 then (if c.letter = [76] then decide (c.group = [6]) else decide (c.letter = []) && decide (c.group.length ≤ 1) && groupB c.group)
     else if c.kind = 8 then decide (c.group = []) && letterB c.letter
     else decide (c.letter = []) && groupB c.group)
def chrB (c : Chr) : Bool :=
  shapeB c && (if steadyB c = true then decide (c.period = 0) else (!decide (c.kind = 3) || decide (c.period % 2 = 0)) && inB (leastP c) 600 [c.period])
/-- The phases: a color and a length; no color in the dark. -/
def phasesT (k : Int) (color : List UInt8) : Bool → List Int → List (List UInt8 × Int)
  | _, [] => []
  | odd, t :: l => ((if odd != decide (k = 2) then [] else color), t) :: phasesT k color (!odd) l
def lastT (c : Chr) : Int := if steadyB c = true then gapK c.kind else c.period - sumI (timesOf c)
def phasesOf (c : Chr) (color : List UInt8) : List (List UInt8 × Int) :=
  if c.kind = 1 then [(color, 10)] else if c.kind = 3 then [(color, c.period / 2), ([], c.period / 2)] else phasesT c.kind color false (timesOf c ++ [lastT c])
def litOf : List (List UInt8 × Int) → Int
  | [] => 0
  | p :: l => (if p.1 = [] then 0 else p.2) + litOf l

theorem sumI_append (a b : List Int) : sumI (a ++ b) = sumI a + sumI b := by
  induction a with
  | nil => simp [sumI]
  | cons x l ih => simp only [List.cons_append, sumI, ih]; omega
theorem more_len (k : Int) (n : Nat) : (more k n).length = 2 * n := by
  induction n with
  | zero => rfl
  | succ n ih => simp only [more, List.length_append, ih]; simp; omega
theorem more_sum (k : Int) (n : Nat) : sumI (more k n) = n * (gapK k + flashK k) := by
  induction n with
  | zero => simp [more, sumI]
  | succ n ih =>
    simp only [more, sumI_append, ih, sumI]
    rw [show ((n + 1 : Nat) : Int) = (n : Int) + 1 by omega, Int.add_mul]
    omega
theorem bursts_len (k : Int) (g : List Int) (h : inB 1 9 g = true) : (bursts k g).length = 2 * (sumI g).toNat ∧ 0 ≤ sumI g := by
  induction g with
  | nil => simp [bursts, sumI]
  | cons a l ih =>
    have ha : (1 ≤ a ∧ a ≤ 9) ∧ inB 1 9 l = true := by simpa [inB] using h
    obtain ⟨i1, i2⟩ := ih ha.2
    simp only [bursts, List.length_cons, List.length_append, more_len, i1, sumI]
    omega
theorem bursts_sum (k : Int) (g : List Int) (h : inB 1 9 g = true) : sumI (bursts k g) = sumI g * (gapK k + flashK k) + 20 * g.length := by
  induction g with
  | nil => simp [bursts, sumI]
  | cons a l ih =>
    have ha : (1 ≤ a ∧ a ≤ 9) ∧ inB 1 9 l = true := by simpa [inB] using h
    have i1 := ih ha.2
    obtain ⟨n, rfl⟩ : ∃ n : Nat, a = (n : Int) + 1 := ⟨(a - 1).toNat, by omega⟩
    have e : ((n : Int) + 1).toNat - 1 = n := by omega
    simp only [bursts, sumI, sumI_append, List.cons_append, i1, e, more_sum, List.length_cons]
    rw [Int.add_mul, Int.add_mul, Int.one_mul]
    push_cast
    omega
end Go.Proofs.YtgcaipjknpcepabDoor
