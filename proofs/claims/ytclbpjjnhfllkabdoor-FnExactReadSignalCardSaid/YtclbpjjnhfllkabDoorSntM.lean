/- Texts that can be sent. -/
import Derived.Test.YtclbpjjnhfllkabDoorSplitM
namespace Go.Proofs.YtclbpjjnhfllkabDoor
open Go.ChangeShapes Go.WideShapes Go.ChangeAt Go.RowKit Pm

/-- A capital letter. -/
def capB (b : UInt8) : Bool := decide (65 ≤ b.toNat) && decide (b.toNat ≤ 90)
/-- Words of capital letters, one blank between two: behind a blank or at the beginning, or not. -/
def okF : Bool → List UInt8 → Bool
  | p, [] => !p
  | p, x :: r => if x = 32 then !p && okF true r else capB x && okF false r
def goodW (p : List UInt8) : Bool := !p.isEmpty && p.all capB
theorem cut_ok : ∀ l : List UInt8, (cutAt 32 l).all goodW = okF true l ∧ ∃ p ps, cutAt 32 l = p :: ps ∧ (p.all capB && ps.all goodW) = okF false l
  | [] => ⟨rfl, [], [], rfl, rfl⟩
  | x :: r => by
    obtain ⟨h1, p, ps, h2, h3⟩ := cut_ok r
    by_cases e : x = 32
    · subst e
      have hc : cutAt 32 (32 :: r) = [] :: cutAt 32 r := by rw [cutAt, if_pos rfl]
      refine ⟨by rw [hc]; rfl, [], cutAt 32 r, hc, ?_⟩
      rw [h1]; rfl
    · have hc : cutAt 32 (x :: r) = (x :: p) :: ps := by rw [cutAt, if_neg e, h2]; rfl
      have hx : ∀ q, okF q (x :: r) = (capB x && okF false r) := fun q => by rw [okF, if_neg e]
      refine ⟨?_, x :: p, ps, hc, ?_⟩
      · rw [hc, hx, ← h3, List.all_cons]
        unfold goodW
        rw [List.all_cons]
        simp [Bool.and_assoc]
      · rw [hx, ← h3, List.all_cons, Bool.and_assoc]
/-- Can a text be sent? -/
def sntB (s : ByteArray) : Bool := okF true s.data.toList && decide (s.size ≤ 12)
theorem okF_cons (p : Bool) (x : UInt8) (r : List UInt8) : okF p (x :: r) = if x = 32 then !p && okF true r else capB x && okF false r := by rw [okF]
theorem okF_drop (p : Bool) (l : List UInt8) (k : Nat) (h : k < l.length) : okF p (l.drop k) = if l[k] = 32 then !p && okF true (l.drop (k + 1)) else capB l[k] && okF false (l.drop (k + 1)) := by
  rw [List.drop_eq_getElem_cons h, okF_cons]
theorem okF_nil (p : Bool) (l : List UInt8) (k : Nat) (h : l.length ≤ k) : okF p (l.drop k) = !p := by
  rw [List.drop_of_length_le h]; rfl
end Go.Proofs.YtclbpjjnhfllkabDoor
