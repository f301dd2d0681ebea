/- Marks: the model's names, kinds, colors, topmarks, sides. -/
import Derived.Test.YthheacebafleeaaDoorMrkM
import Derived.Test.YthheacebafleeaaDoorKit
import Derived.Test.YthheacebafleeaaDoorOk
import Derived.Test.YthheacebafleeaaDoorClx
namespace Go.Proofs.YthheacebafleeaaDoor
open Go.ChangeShapes Go.WideShapes Go.ChangeAt Go.RowKit Pm

set_option maxRecDepth 100000 in
set_option maxHeartbeats 4000000 in
theorem smarkname_any (k : Int) (w : World) :
    Calls Tryd.prog 11 #[.int .i64 k] w fun e w' => e = .returned (.string (mkF k 0)) ∧ Below w.heap.size w w' := by
  cases h : inB 0 9 [k]
  · rw [mkF_out h]
    have HI := Lib.hid (fun w => h ▸ in_any k 0 9 w)
    clear h
    go_enter Tryd.func11, Tryd.ntmps11
    go_wp2_with (go_at_call 33; refine (HI.out _).mono ?_; rintro e w' ⟨rfl, rfl⟩)
    go_ret
    exact ⟨rfl, by go_grown⟩
  · have hk := kind_ten h
    clear h
    rcases hk with rfl | rfl | rfl | rfl | rfl | rfl | rfl | rfl | rfl | rfl
    all_goals
      go_enter Tryd.func11, Tryd.ntmps11
      go_wp2_with (first | (go_at_call 33; refine (in_any _ _ _ _).mono ?_; rintro e w' ⟨rfl, rfl⟩) | (go_at_call 34; go_in))
      go_ret
      exact ⟨rfl, by go_grown⟩
set_option maxRecDepth 100000 in
set_option maxHeartbeats 4000000 in
theorem ssidetopass_any (k : Int) (w : World) :
    Calls Tryd.prog 22 #[.int .i64 k] w fun e w' => e = .returned (.string (mkF k 4)) ∧ Below w.heap.size w w' := by
  cases h : inB 0 9 [k]
  · rw [mkF_out h]
    have HI := Lib.hid (fun w => h ▸ in_any k 0 9 w)
    clear h
    go_enter Tryd.func22, Tryd.ntmps22
    go_wp2_with (go_at_call 33; refine (HI.out _).mono ?_; rintro e w' ⟨rfl, rfl⟩)
    go_ret
    exact ⟨rfl, by go_grown⟩
  · have hk := kind_ten h
    clear h
    rcases hk with rfl | rfl | rfl | rfl | rfl | rfl | rfl | rfl | rfl | rfl
    all_goals
      go_enter Tryd.func22, Tryd.ntmps22
      go_wp2_with (go_at_call 33; refine (in_any _ _ _ _).mono ?_; rintro e w' ⟨rfl, rfl⟩)
      go_ret
      exact ⟨rfl, by go_grown⟩
theorem skind_any (k : Int) (w : World) :
    Calls Tryd.prog 37 #[.int .i64 k] w fun e w' => e = .returned (.bool (inB 1 9 [k])) ∧ w = w' := by
  go_enter Tryd.func37, Tryd.ntmps37
  go_wp2_with (go_at_call 33; refine (in_any _ _ _ _).mono ?_; rintro e w' ⟨rfl, rfl⟩)
  go_ret
  exact ⟨rfl, rfl⟩
set_option maxRecDepth 100000 in
set_option maxHeartbeats 4000000 in
theorem smkcolors_any (k : Int) (w : World) (h : inB 1 9 [k] = true) :
    Calls Tryd.prog 38 #[.int .i64 k] w fun e w' => e = .returned (.string (mkF k 1)) ∧ Below w.heap.size w w' := by
  have hk := kind_nine h
  clear h
  rcases hk with rfl | rfl | rfl | rfl | rfl | rfl | rfl | rfl | rfl
  all_goals
    go_enter Tryd.func38, Tryd.ntmps38
    go_wp2
    go_ret
    exact ⟨rfl, by go_grown⟩
set_option maxRecDepth 100000 in
set_option maxHeartbeats 4000000 in
theorem smktop_any (k : Int) (w : World) (h : inB 1 9 [k] = true) :
    Calls Tryd.prog 40 #[.int .i64 k] w fun e w' => e = .returned (.string (mkF k 3)) ∧ Below w.heap.size w w' := by
  have hk := kind_nine h
  clear h
  rcases hk with rfl | rfl | rfl | rfl | rfl | rfl | rfl | rfl | rfl
  all_goals
    go_enter Tryd.func40, Tryd.ntmps40
    go_wp2
    go_ret
    exact ⟨rfl, by go_grown⟩
/-- A row of strings lies there. -/
def StrRow (w : World) (n : Nat) (zs : List ByteArray) : Prop := ∀ j, j < zs.length → w.cell? ⟨n, 0 + j, none⟩ = some (.string (zs.getD j ByteArray.empty))
theorem StrRow.below {w w' : World} {n : Nat} {zs : List ByteArray} (h : StrRow w n zs) (hb : Below w.heap.size w w') : StrRow w' n zs := fun j hj => cell_below (h j hj) hb
theorem strrow2 (w : World) (T : TypeId) (a b : ByteArray) : StrRow (w.alloc (.cells #[.string a, .string b] T)) w.heap.size [a, b] := by
  intro j hj
  have : j = 0 ∨ j = 1 := by simp at hj; omega
  rcases this with rfl | rfl <;> simp
theorem strrow3 (w : World) (T : TypeId) (a b c : ByteArray) : StrRow (w.alloc (.cells #[.string a, .string b, .string c] T)) w.heap.size [a, b, c] := by
  intro j hj
  have : j = 0 ∨ j = 1 ∨ j = 2 := by simp at hj; omega
  rcases this with rfl | rfl | rfl <;> simp
theorem strrow5 (w : World) (T : TypeId) (a b c d e : ByteArray) : StrRow (w.alloc (.cells #[.string a, .string b, .string c, .string d, .string e] T)) w.heap.size [a, b, c, d, e] := by
  intro j hj
  have : j = 0 ∨ j = 1 ∨ j = 2 ∨ j = 3 ∨ j = 4 := by simp at hj; omega
  rcases this with rfl | rfl | rfl | rfl | rfl <;> simp
set_option maxRecDepth 100000 in
set_option maxHeartbeats 4000000 in
theorem smkshapes_any (k : Int) (w : World) (h : inB 1 9 [k] = true) :
    Calls Tryd.prog 39 #[.int .i64 k] w fun e w' => e = .returned (.slice (some ⟨w.heap.size, 0, none⟩) (mkShapes k).length (mkShapes k).length) ∧ StrRow w' w.heap.size (mkShapes k) ∧ Below w.heap.size w w' := by
  have hk := kind_nine h
  clear h
  rcases hk with rfl | rfl | rfl | rfl | rfl | rfl | rfl | rfl | rfl
  all_goals
    go_enter Tryd.func39, Tryd.ntmps39
    go_wp2
    go_ret
    exact ⟨rfl, by first | exact strrow2 _ _ _ _ | exact strrow3 _ _ _ _ _ | exact strrow5 _ _ _ _ _ _ _, by go_grown⟩
end Go.Proofs.YthheacebafleeaaDoor
