/- The marks that the law puts into a row of numbers and reads again. -/
import Derived.Test.YthheacebafleeaaDoorSlices
import Derived.Test.YthheacebafleeaaDoorMrkH0
namespace Go.Proofs.YthheacebafleeaaDoor
open Go.ChangeShapes Go.WideShapes Go.ChangeAt Go.RowKit Pm

def intV (zs : List Int) : List Value := zs.map (Value.int .i64)
theorem own_none (w : World) (B : Nat) (E : TypeId) : w.ownsRow B E 1 (.slice none 0 0) 0 [] := ⟨rfl, .inl ⟨rfl, rfl⟩⟩
/-- The marks, in order. -/
def marks (k : Int) (n : Nat) : List Int := (List.range n).map fun (j : Nat) => k + j
theorem marks_len (k : Int) (n : Nat) : (marks k n).length = n := by simp [marks]
theorem marks_at (k : Int) (n j : Nat) (h : j < n) : (intV (marks k n))[j]? = some (.int .i64 (k + j)) := by simp [intV, marks, h]
theorem intV_len (zs : List Int) : (intV zs).length = zs.length := by simp [intV]

/-- An owned row's value. -/
theorem own_form {w : World} {B : Nat} {E : TypeId} {v : Value} {n : Nat} {xs : List Value} (h : w.ownsRow B E 1 v n xs) :
    (v = .slice none 0 0 ∧ n = 0) ∨ ∃ g cap, v = .slice (some ⟨g, 0, none⟩) n cap ∧ B ≤ g := by
  rcases h.2 with ⟨h1, h2⟩ | ⟨g, cap, cur, h1, h3, _⟩
  · exact .inl ⟨h1, by simpa using h2⟩
  · exact .inr ⟨g, cap, h1, h3⟩

def MarkRet (E : TypeId) (B : Nat) (v : Value) (n : Nat) (k : Int) (ys : List Value) (w : World) (e : Ending) (w' : World) : Prop :=
  e = .returned (.int .i64 (k + n)) ∧ w'.ownsRow B E 1 v n ys ∧ Below B w w'

theorem mark_any (v : Value) (n : Nat) (xs : List Value) (B : Nat) (w : World) (k : Int) (h0 : 0 ≤ k) (h1 : k ≤ 1000000) (hn : n ≤ 2097152) (ho : w.ownsRow B 2 1 v n xs) :
    Calls Tryd.prog 27 #[v, .int .i64 k] w (MarkRet 2 B v n k (intV (marks k n)) w) := by
  rcases own_form ho with ⟨rfl, rfl⟩ | ⟨g, cap, rfl, hB⟩
  · have HO := Lib.hid ho
    clear ho
    go_enter Tryd.func27, Tryd.ntmps27
    go_wp2
    go_rounds 1
    go_ret
    exact ⟨by simp, own_none _ _ _, Below.refl _ _⟩
  · have hxl : xs.length = n := by have := ho.1; omega
    have HO := Lib.hid ho
    clear ho
    go_enter Tryd.func27, Tryd.ntmps27
    go_wp2
    go_loopw [1, 5] (fun q i wr => ∃ (j : Nat) (ys : List Value), j ≤ n ∧ i = .int .i64 j ∧ q = .int .i64 (k + j) ∧ Upto ys j (intV (marks k n)) ∧ wr.ownsRow B 2 1 (.slice (some ⟨g, 0, none⟩) n cap) n ys ∧ Below B w wr) (fun _ i _ => n - (intOf i).toNat)
    case atStart => exact ⟨0, xs, Nat.zero_le _, rfl, by simp, ⟨by rw [intV_len, marks_len, hxl], fun j hj => by omega⟩, HO.out, Below.refl _ _⟩
    case round =>
      obtain ⟨j, ys, hj, rfl, rfl, hup, hown, hbel⟩ := hrel
      have HU := Lib.hid hup
      clear hup
      by_cases hlt : j < n
      · have hold := hown.cellAt j (by omega)
        rw [List.getElem?_eq_getElem (by have := HU.out.1; rw [intV_len, marks_len] at this; omega)] at hold
        have hfz := hown.frozenAt j
        have HUP := Lib.hid (HU.out.step (u := .int .i64 (k + j)) (by rw [intV_len, marks_len]; exact hlt) (marks_at k n j hlt))
        have HST := Lib.hid (hown.stored j (.int .i64 (k + j))).1
        have HB2 := Lib.hid (hbel.setCell (p := ⟨g, j, none⟩) hB (.int .i64 (k + j)))
        clear hown hbel
        go_wp2
        go_roundw
        case rel => exact ⟨j + 1, _, by omega, by go_num, by go_num, HUP.out, HST.out, HB2.out⟩
        case measure => simp [intOf]; omega
      · obtain rfl : j = n := by omega
        have e : ys = intV (marks k j) := by
          exact Upto.all (by rw [intV_len, marks_len]; exact HU.out)
        rw [e] at hown
        have HOW := Lib.hid hown
        have HB2 := Lib.hid hbel
        clear hown hbel e
        go_wp2
        go_ret
        exact ⟨rfl, HOW.out, HB2.out⟩

theorem held_any (v : Value) (n : Nat) (B : Nat) (w : World) (k : Int) (h0 : 0 ≤ k) (h1 : k ≤ 1000000) (hn : n ≤ 2097152) (ho : w.ownsRow B 2 1 v n (intV (marks k n))) :
    Calls Tryd.prog 28 #[v, .int .i64 k] w (fun e w' => e = .returned (.int .i64 (k + n)) ∧ w = w') := by
  rcases own_form ho with ⟨rfl, rfl⟩ | ⟨g, cap, rfl, hB⟩
  · clear ho
    go_enter Tryd.func28, Tryd.ntmps28
    go_wp2
    go_rounds 1
    go_ret
    exact ⟨by simp, rfl⟩
  · have HO := Lib.hid ho
    clear ho
    go_enter Tryd.func28, Tryd.ntmps28
    go_wp2
    go_loop [1, 5] (fun q i => ∃ (j : Nat), j ≤ n ∧ i = .int .i64 j ∧ q = .int .i64 (k + j)) (fun _ i => n - (intOf i).toNat)
    case atStart => exact ⟨0, Nat.zero_le _, rfl, by simp⟩
    case round =>
      obtain ⟨j, hj, rfl, rfl⟩ := hrel
      by_cases hlt : j < n
      · have hcell := HO.out.cellAt j (by omega)
        rw [marks_at k n j hlt] at hcell
        go_wp2
        go_round
        case rel => exact ⟨j + 1, by omega, by go_num, by go_num⟩
        case measure => simp [intOf]; omega
      · obtain rfl : j = n := by omega
        go_wp2
        go_ret
        exact ⟨rfl, rfl⟩
end Go.Proofs.YthheacebafleeaaDoor
