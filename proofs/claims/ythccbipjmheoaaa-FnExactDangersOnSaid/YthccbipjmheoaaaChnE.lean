/- The comparison of two lists of points: the model's and the program's. -/
import Derived.Test.YthccbipjmheoaaaChn
import Derived.Deep.QuietTactic
import Derived.BigQuiet
import Derived.Laws.StructEq
namespace Go.Proofs.Ythccbipjmheoaaa
open Go.ChangeShapes Go.WideShapes Go.ChangeAt Go.RowKit Pm

theorem pt_getD (ps : List (Int × Int)) (i : Nat) (h : i < ps.length) : ps.getD i (0, 0) = ps[i] := by simp [h]
/-- Two points are one. -/
def ptB (p q : Int × Int) : Bool := p.1 == q.1 && p.2 == q.2
theorem ptB_eq {p q : Int × Int} (h : ptB p q = true) : p = q := by
  obtain ⟨f, t⟩ := p
  obtain ⟨g, u⟩ := q
  simp only [ptB, Bool.and_eq_true, beq_iff_eq] at h
  rw [h.1, h.2]
theorem ptB_same (p : Int × Int) : ptB p p = true := by simp [ptB]
/-- Two lists of points are one. -/
def sameP : List (Int × Int) → List (Int × Int) → Bool
  | [], [] => true
  | p :: ps, q :: qs => ptB p q && sameP ps qs
  | _, _ => false
theorem sameP_eq : ∀ {ps qs : List (Int × Int)}, sameP ps qs = true → ps = qs
  | [], [], _ => rfl
  | p :: ps, q :: qs, h => by
    simp only [sameP, Bool.and_eq_true] at h
    rw [ptB_eq h.1, sameP_eq h.2]
  | [], _ :: _, h => by simp [sameP] at h
  | _ :: _, [], h => by simp [sameP] at h
theorem sameP_same : ∀ ps : List (Int × Int), sameP ps ps = true
  | [] => rfl
  | p :: ps => by simp [sameP, ptB_same, sameP_same ps]
theorem sameP_no {ps qs : List (Int × Int)} (h : ps ≠ qs) : sameP ps qs = false := by
  cases e : sameP ps qs
  · rfl
  · exact absurd (sameP_eq e) h
theorem sameP_at {ps qs : List (Int × Int)} {k : Nat} (h : ptB (ps.getD k (0, 0)) (qs.getD k (0, 0)) = false) : sameP ps qs = false := by
  refine sameP_no fun e => ?_
  subst e
  rw [ptB_same] at h; cases h
theorem sameP_upto {ps qs : List (Int × Int)} (hl : ps.length = qs.length) (h : ∀ i, i < ps.length → ps.getD i (0, 0) = qs.getD i (0, 0)) : sameP ps qs = true := by
  have : ps = qs := by
    apply List.ext_getElem hl
    intro i h1 h2
    have := h i h1
    rwa [pt_getD ps i h1, pt_getD qs i h2] at this
  rw [this]; exact sameP_same _

theorem ptGuard : Try.prog.eqGuardType Try.prog.depth 33 = false := by kernel_rfl
theorem ptEqual (f f' t t' : Int) (w : World) : (Op.equalIn 10000 33 (.agg #[.int .i64 f, .int .i64 t]) (.agg #[.int .i64 f', .int .i64 t'])).run Try.prog w = .ok (ptB (f, t) (f', t')) w := by
  have hS : Try.prog.underlying 33 = some (.struct (Try.prog.fieldsOf 33)) := by kernel_rfl
  have hp : Try.prog.stoodInHeld 33 = false := by kernel_rfl
  rw [show (10000 : Nat) = 9999 + 1 from rfl, run_equalIn_agg w 9999 _ _ _ hS hp]
  simp only [Program.fieldsOf, Try.underlying33]
  go_simp
  by_cases h1 : f = f' <;> by_cases h2 : t = t' <;> simp [ptB, h1, h2]
theorem ptNeq (f f' t t' : Int) (w : World) : (binOp .neq 33 (.agg #[.int .i64 f, .int .i64 t]) (.agg #[.int .i64 f', .int .i64 t'])).run Try.prog w = .ok (.bool (!ptB (f, t) (f', t'))) w := by
  rw [run_neq_struct, ptEqual]; rfl
theorem ptEql (f f' t t' : Int) (w : World) : (binOp .eql 33 (.agg #[.int .i64 f, .int .i64 t]) (.agg #[.int .i64 f', .int .i64 t'])).run Try.prog w = .ok (.bool (ptB (f, t) (f', t'))) w := by
  rw [run_eql_struct, ptEqual]; rfl

/-- A comparison's answer: a Bool, the world but for draws. -/
def EqRetP (b : Bool) (w : World) (e : Ending) (w' : World) : Prop := e = .returned (.bool b) ∧ ∃ m, w' = w.drewN m
theorem EqRetP.below {b : Bool} {w w' : World} {e : Ending} (h : EqRetP b w e w') : e = .returned (.bool b) ∧ Below w.heap.size w w' := by
  obtain ⟨rfl, m, rfl⟩ := h
  exact ⟨rfl, below_drewN (Below.refl _ _) m⟩

end Go.Proofs.Ythccbipjmheoaaa
