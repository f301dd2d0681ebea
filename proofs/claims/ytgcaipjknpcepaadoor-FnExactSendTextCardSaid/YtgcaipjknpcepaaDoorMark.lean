/- The marks that the laws put into a row of numbers and read again. -/
import Derived.Test.YtgcaipjknpcepaaDoorReadI
namespace Go.Proofs.YtgcaipjknpcepaaDoor
open Go.ChangeShapes Go.WideShapes Go.ChangeAt Go.RowKit Pm

/-- The marks, in order. -/
def marks (k : Int) (n : Nat) : List Int := (List.range n).map fun (j : Nat) => k + j
theorem marks_len (k : Int) (n : Nat) : (marks k n).length = n := by simp [marks]
theorem marks_at (k : Int) (n j : Nat) (h : j < n) : (intV (marks k n))[j]? = some (.int .i64 (k + j)) := by simp [intV, marks, h]
theorem intV_len (zs : List Int) : (intV zs).length = zs.length := by simp [intV]

/-- An owned row's value. -/
theorem own_form {w : World} {B : Nat} {E : TypeId} {v : Value} {n : Nat} {xs : List Value} (h : w.ownsRow B E 1 v n xs) :
    (v = .slice none 0 0 ∧ n = 0) ∨ ∃ g cap, v = .slice (some ⟨g, 0, none⟩) n cap ∧ B ≤ g := by
  rcases h.2 with ⟨h1, h2⟩ | ⟨g, cap, cur, h1, h3, _⟩
  · exact .inl ⟨h1, by simpa using h2⟩
  · exact .inr ⟨g, cap, h1, h3⟩

def MarkRet (E : TypeId) (B : Nat) (v : Value) (n : Nat) (k : Int) (ys : List Value) (w : World) (e : Ending) (w' : World) : Prop :=
  e = .returned (.int .i64 (k + n)) ∧ w'.ownsRow B E 1 v n ys ∧ Below B w w'


end Go.Proofs.YtgcaipjknpcepaaDoor
