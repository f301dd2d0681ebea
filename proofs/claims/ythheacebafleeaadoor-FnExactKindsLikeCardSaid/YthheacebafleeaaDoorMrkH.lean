/- Kinds of marks that look like some words: the program's. -/
import Derived.Test.YthheacebafleeaaDoorMrkG2
import Derived.Test.YthheacebafleeaaDoorMrkG3
import Derived.Test.YthheacebafleeaaDoorMrkH0
namespace Go.Proofs.YthheacebafleeaaDoor
open Go.ChangeShapes Go.WideShapes Go.ChangeAt Go.RowKit Pm

theorem lret {a b : Bool} {w w1 w' : World} (h : a = b) : (∀ e, (e = Ending.returned (.bool a) ∧ Below w.heap.size w1 w') → e = Ending.returned (.bool b) ∧ Below w.heap.size w1 w') := by
  subst h; exact fun _ h => h
set_option maxRecDepth 100000 in
theorem likeat_any (k : Int) (c s t : ByteArray) (bc bs bt : Nat) (w : World) (hM : MarksAt w) (hS : SpaceAt w)
    (c0 : w.cell? ⟨bc, 0, none⟩ = some (.string c)) (c1 : w.cell? ⟨bs, 0, none⟩ = some (.string s)) (c2 : w.cell? ⟨bt, 0, none⟩ = some (.string t)) :
    Calls Tryd.prog 48 #[.int .i64 k, .pointer (some ⟨bc, 0, none⟩), .pointer (some ⟨bs, 0, none⟩), .pointer (some ⟨bt, 0, none⟩)] w fun e w' => e = .returned (.bool (likeB k c s t)) ∧ Below w.heap.size w w' := by
  have HR := fun w' (hb : Below w.heap.size w w') => markrow_any k w' (hM.below hb)
  have HN := fun w' (hb : Below w.heap.size w w') => shapenames_any k w' (hS.below hb)
  have HL := fun w' => haslook_any k w'
  have HFC := fun w' n h => fits_one c (mkF k 1) w' n h
  have HFS := fun n w' (h : StrsAt w' n (mkShapes k)) => fits_any s n (mkShapes k).length (mkShapes k) (mkShapes k).length w' rfl (shapes_len k) h
  have HFT := fun w' n h => fits_one t (mkF k 3) w' n h
  unfold likeB
  unfold rowV at HR HN
  cases h1 : inB 1 9 [k]
  · rw [h1] at HL
    exact like_none k c s t _ _ _ _ _ _ _ bc bs bt w HR HL c0 c1 c2
  rw [h1] at HL
  cases h2 : fitB c [mkF k 1]
  · rw [h2] at HFC
    exact like_color k c s t _ _ _ _ _ _ _ bc bs bt w HR HL HFC c0 c1 c2
  rw [h2] at HFC
  cases h3 : fitB s (mkShapes k)
  · rw [h3] at HFS
    exact like_shape k c s t _ _ _ _ _ _ _ bc bs bt _ _ w HR HL HFC HN HFS c0 c1 c2
  rw [h3] at HFS
  exact like_top k c s t _ _ _ _ _ _ _ bc bs bt _ _ _ w HR HL HFC HN HFS HFT c0 c1 c2
theorem OwnN.weaken {w : World} {B B' : Nat} {v : Value} {zs : List Int} (h : OwnN w B v zs) (hB : B' ≤ B) : OwnN w B' v zs := by
  refine ⟨h.1, ?_⟩
  rcases h.2 with h2 | ⟨g, cap, cur, h1, h3, h4, h5⟩
  · exact .inl h2
  · exact .inr ⟨g, cap, cur, h1, Nat.le_trans hB h3, h4, h5⟩
/-- The kinds that look so. -/
def likesN (c s t : ByteArray) : List Int := likN (fun (k : Nat) => likeB k c s t) 10
theorem kindslike_any (c s t : ByteArray) (w : World) (hM : MarksAt w) (hS : SpaceAt w) :
    Calls Tryd.prog 25 #[.string c, .string s, .string t] w fun e w' => ∃ v, e = .returned v ∧ OwnN w' w.heap.size v (likesN c s t) ∧ Below w.heap.size w w' := by
  have HK := Lib.hid (fun (w' : World) (bc bs bt : Nat) (hb : Below w.heap.size w w') (c0 : w'.cell? ⟨bc, 0, none⟩ = some (.string c)) (c1 : w'.cell? ⟨bs, 0, none⟩ = some (.string s)) (c2 : w'.cell? ⟨bt, 0, none⟩ = some (.string t)) => kinds_any c s t bc bs bt w' (fun d w'' h => likeat_any (d : Int) c s t bc bs bt w'' ((hM.below hb).below h) ((hS.below hb).below h) (cell_below c0 h) (cell_below c1 h) (cell_below c2 h)))
  unfold likesN
  generalize likN (fun (k : Nat) => likeB k c s t) 10 = zs at *
  clear hM hS
  go_enter Tryd.func25, Tryd.ntmps25
  go_wp2_with (go_at_call 47; refine (HK.out _ _ _ _ (by go_grown) (by go_cell) (by go_cell) (by go_cell)).mono ?_; rintro e w1 ⟨v, rfl, ho, hb⟩; have HO := Lib.hid ho; have HB := Lib.hid (Below.next (a := w) (by go_grown) hb); clear ho hb)
  go_ret
  exact ⟨_, rfl, HO.out.weaken (by simp; omega), HB.out⟩
end Go.Proofs.YthheacebafleeaaDoor
