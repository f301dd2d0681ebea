/- Two circles are one: the comparison of arrays of texts. -/
import Derived.Test.YtclbpjjnhfllkaaArr
import Derived.Test.YtclbpjjnhfllkaaSimM
import Derived.Test.YtclbpjjnhfllkaaTrnS
import Derived.Laws.StructEq
import Derived.ChangeKeysEq
namespace Go.Proofs.Ytclbpjjnhfllkaa
open Go.ChangeShapes Go.WideShapes Go.ChangeAt Go.RowKit Pm

theorem part_str (w : World) (zs : List ByteArray) (i : Nat) (h : i < zs.length) : (part 9 (cirV zs).toArray i).run Try.prog w = .ok (.string (zs.getD i e0)) w := by
  have hc : (cirV zs)[i]? = some (.string (zs.getD i e0)) := cirV_at zs i h
  go_simp
theorem eqItems_str (w : World) (xs ys : List ByteArray) : ∀ is : List Nat, (∀ i ∈ is, i < xs.length ∧ i < ys.length) →
    (Op.eqItems 9999 9 1 (cirV xs).toArray (cirV ys).toArray is).run Try.prog w = .ok (is.all fun i => sB (xs.getD i e0) (ys.getD i e0)) w
  | [], _ => by simp [Op.eqItems]
  | i :: is, h => by
    have h1 := h i (by simp)
    have ih := eqItems_str w xs ys is (fun j hj => h j (by simp [hj]))
    have hs := run_equalIn_string (P := Try.prog) w 9998 9 (xs.getD i e0) (ys.getD i e0) Try.underlying9
    simp only [Op.eqItems, Sem.run_bind, Nat.mul_one, part_str w xs i h1.1, part_str w ys i h1.2, Result.andThen_ok]
    rw [show (9999 : Nat) = 9998 + 1 from rfl, hs]
    simp only [Result.andThen_ok, List.all_cons]
    cases hb : sB (xs.getD i e0) (ys.getD i e0)
    · have hb2 : ((xs.getD i e0).toList == (ys.getD i e0).toList) = false := hb
      rw [hb2]; simp
    · have hb2 : ((xs.getD i e0).toList == (ys.getD i e0).toList) = true := hb
      rw [hb2]
      simpa using ih
/-- All have the color of the one before. -/
def uniB (L : List ByteArray) : Bool := (List.range 360).all fun d => sB (cF L ((d + 359) % 360)) (cF L d)
theorem uniB_begs (L : List ByteArray) : uniB L = true ↔ begs (cF L) 360 = [] := by
  rw [begs_none]
  unfold uniB
  rw [List.all_eq_true]
  constructor
  · intro h d hd
    exact sB_iff.1 (h d (List.mem_range.2 hd))
  · intro h d hd
    exact sB_iff.2 (h d (List.mem_range.1 hd))
theorem eq_turned (L : List ByteArray) (hL : L.length = 360) (w : World) :
    (binOp .eql 60 (.agg (cirV (turnL L 1)).toArray) (.agg (cirV L).toArray)).run Try.prog w = .ok (.bool (uniB L)) w := by
  obtain ⟨i0, hi, _⟩ := strinfo_parts infoStrC
  have hcl : Try.prog.cellsOf 9 = 1 := by kernel_rfl
  rw [run_eql_struct]
  rw [show (10000 : Nat) = 9999 + 1 from rfl, run_equalIn_array w 9999 _ _ Try.underlying60 hi, hcl]
  rw [eqItems_str w _ _ _ (fun i hi => by rw [show (turnL L 1).length = 360 from turnK_len L 1 360, hL]; exact ⟨List.mem_range.1 hi, List.mem_range.1 hi⟩)]
  have e : ((List.range 360).all fun i => sB ((turnL L 1).getD i e0) (L.getD i e0)) = uniB L := by
    unfold uniB
    rw [Bool.eq_iff_iff, List.all_eq_true, List.all_eq_true]
    have key : ∀ d, d < 360 → (turnL L 1).getD d e0 = cF L ((d + 359) % 360) := fun d hd => by
      have h4 : (d + 359) % 360 < 360 := Nat.mod_lt _ (by omega)
      unfold turnL turnK cF
      simp [hd, h4]
    constructor
    · intro h d hd
      have := h d hd
      rwa [key d (List.mem_range.1 hd)] at this
    · intro h d hd
      rw [key d (List.mem_range.1 hd)]
      exact h d hd
  rw [e]; rfl
end Go.Proofs.Ytclbpjjnhfllkaa
