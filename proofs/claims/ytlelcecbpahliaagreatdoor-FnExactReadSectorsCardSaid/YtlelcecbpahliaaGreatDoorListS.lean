/- The text of a list of numbers: the model's. -/
import Derived.Test.YtlelcecbpahliaaGreatDoorSlices
import Derived.Test.YtlelcecbpahliaaGreatDoorDec
import Derived.Lib.Join
import Derived.Lib.ItoaLen
namespace Go.Proofs.YtlelcecbpahliaaGreatDoor
open Go.ChangeShapes Go.WideShapes Go.ChangeAt Go.RowKit Pm

theorem ret_str {s u : ByteArray} (h : s = u) : Ending.returned (.string s) = .returned (.string u) := by rw [h]

/-- The forms of numbers, commas between. -/
def jn (zs : List Int) : List UInt8 := Lib.join (zs.map Lib.itoa) [44]

theorem jn_snoc (zs : List Int) (z : Int) (h : zs ≠ []) : jn (zs ++ [z]) = jn zs ++ [44] ++ Lib.itoa z := by
  cases zs with
  | nil => exact absurd rfl h
  | cons a r =>
    simp only [jn, List.cons_append, List.map_cons, List.map_append, List.map_nil]
    rw [Lib.join_cons, Lib.join_cons]
    simp [Lib.joinTail]

theorem jn_one (z : Int) : jn [z] = Lib.itoa z := Lib.join_one _ _

/-- Has a list a text? -/
def fitsB (zs : List Int) : Bool := decide (zs.length ≤ 64) && inB (-1000000000000) 1000000000000 zs
theorem fits_out {zs : List Int} (h : fitsB zs = true) : zs.length ≤ 64 ∧ inB (-1000000000000) 1000000000000 zs = true := by
  simpa [fitsB] using h
/-- The text of a list; nothing where there is none. -/
def listT (zs : List Int) : List UInt8 := if fitsB zs = true then (if zs = [] then [45] else jn zs) else []

theorem inB_take (lo hi : Int) (zs : List Int) (k : Nat) (hk : k < zs.length) : inB lo hi (zs.take (k + 1)) = (inB lo hi (zs.take k) && inB lo hi [zs.getD k 0]) := by
  rw [take_succ_getD zs k hk]
  simp [inB, List.all_append]
theorem inB_bad (lo hi : Int) (zs : List Int) (k : Nat) (hk : k < zs.length) (h : inB lo hi [zs.getD k 0] = false) : inB lo hi zs = false := by
  unfold inB at h ⊢
  rw [List.all_eq_false]
  refine ⟨zs.getD k 0, by simp [hk], by simpa using h⟩
theorem inB_at (lo hi : Int) (zs : List Int) (k : Nat) (hk : k < zs.length) (h : inB lo hi zs = true) : lo ≤ zs.getD k 0 ∧ zs.getD k 0 ≤ hi := by
  unfold inB at h
  have := List.all_eq_true.1 h (zs.getD k 0) (by simp [hk])
  simpa using this



end Go.Proofs.YtlelcecbpahliaaGreatDoor
