/- Channels: a law's own words on them (size, copy, comparison). -/
import Derived.Test.YtlelcecbpahliaaGreatDoorPtsE
import Derived.Test.YtlelcecbpahliaaGreatDoorClx
namespace Go.Proofs.YtlelcecbpahliaaGreatDoor
open Go.ChangeShapes Go.WideShapes Go.ChangeAt Go.RowKit Pm

/-- An owned row of points. -/
def OwnPt (w : World) (B : Nat) (v : Value) (ps : List (Int × Int)) : Prop := w.ownsRow B 44 2 v ps.length (ptsV ps)
theorem OwnPt.below {w w' : World} {B : Nat} {v : Value} {ps : List (Int × Int)} (h : OwnPt w B v ps) (hb : Below w.heap.size w w') : OwnPt w' B v ps := own_below2 h hb
theorem OwnPt.mono {w : World} {B B' : Nat} {v : Value} {ps : List (Int × Int)} (h : OwnPt w B v ps) (hB : B' ≤ B) : OwnPt w B' v ps := by
  refine ⟨h.1, ?_⟩
  rcases h.2 with h2 | ⟨g, cap, cur, h1, h3, h4⟩
  · exact .inl h2
  · exact .inr ⟨g, cap, cur, h1, Nat.le_trans hB h3, h4⟩
theorem OwnPt.put {w : World} {B : Nat} {v : Value} {ps : List (Int × Int)} (h : OwnPt w B v ps) {a : Addr} (ha : a.block < B) (u : Value) : OwnPt (w.setCell a u) B v ps := ownsRow_setCell_below h ha u
theorem OwnPt.drew {w : World} {B : Nat} {v : Value} {ps : List (Int × Int)} (h : OwnPt w B v ps) : OwnPt w.drew B v ps := h.below (Below.refl _ _).drew
/-- A slice that reads as points, its length shown. -/
def PtsL (w : World) (v : Value) (ps : List (Int × Int)) : Prop := ∃ a c, v = .slice a ps.length c ∧ PtsAre w (.slice a ps.length c) ps
theorem PtsL.below {w w' : World} {v : Value} {ps : List (Int × Int)} (h : PtsL w v ps) (hb : Below w.heap.size w w') : PtsL w' v ps := by
  obtain ⟨a, c, rfl, h⟩ := h
  exact ⟨a, c, rfl, h.below hb⟩
theorem PtsL.are {w : World} {v : Value} {ps : List (Int × Int)} (h : PtsL w v ps) : PtsAre w v ps := by
  obtain ⟨a, c, rfl, h⟩ := h
  exact h
theorem OwnPt.pts {w : World} {B : Nat} {v : Value} {ps : List (Int × Int)} (h : OwnPt w B v ps) (hn : ps.length ≤ 1048576) : PtsL w v ps := by
  obtain ⟨a, c, e, hp⟩ := pts_of_own h hn
  exact ⟨a, c, e, hp⟩
theorem OwnPt.form {w : World} {B : Nat} {v : Value} {ps : List (Int × Int)} (h : OwnPt w B v ps) : ∃ a c, v = .slice a ps.length c := by
  rcases h.2 with ⟨h1, h2⟩ | ⟨g, cap, cur, h1, _⟩
  · exact ⟨_, _, by rw [h1, show ps.length = 0 by simpa using h2]⟩
  · exact ⟨_, _, h1⟩

/-- What is left of a size behind a channel. -/
def SzC (s : ByteArray) (n : Nat) (left r : Int) : Prop := r = -1 ∨ (0 ≤ r ∧ r ≤ left ∧ (s.size : Int) ≤ left ∧ (n : Int) ≤ left)
def SzP (n : Nat) (left r : Int) : Prop := r = -1 ∨ (0 ≤ r ∧ r ≤ left ∧ (n : Int) ≤ left)
/-- A channel of the call's own. -/
def ChnRet (s : ByteArray) (ps : List (Int × Int)) (z : Int) (w : World) (e : Ending) (w' : World) : Prop :=
  ∃ v, e = .returned (.agg #[.string s, v, .int .i64 z]) ∧ OwnPt w' w.heap.size v ps ∧ Below w.heap.size w w'
/-- A channel compared with one that has the same fields. -/
theorem eqchn_same (s : ByteArray) (z : Int) (ps : List (Int × Int)) (v1 v2 : Value) (w : World) (hn : ps.length ≤ 1048576) (h1 : PtsL w v1 ps) (h2 : PtsL w v2 ps) :
    Calls Tryz.prog 13 #[.agg #[.string s, v1, .int .i64 z], .agg #[.string s, v2, .int .i64 z]] w fun e w' => e = .returned (.bool true) ∧ Below w.heap.size w w' := by
  obtain ⟨a1, c1, rfl, h1⟩ := h1
  obtain ⟨a2, c2, rfl, h2⟩ := h2
  have H1 := Lib.hid h1
  have H2 := Lib.hid h2
  have HE := Lib.hid (fun w' h k => eqpts_same a1 a2 c1 c2 ps w' hn h k)
  clear h1 h2
  go_enter Tryz.func13, Tryz.ntmps13
  go_wp2_with (go_at_call 37; refine (HE.out _ (H1.out.below (by go_grown)) (H2.out.below (by go_grown))).mono ?_; rintro e w1 ⟨rfl, hb⟩; have d0 := cell_below (a := ⟨w.heap.size, 2, none⟩) (v := .int .i64 z) (by go_cell) hb; have d1 := cell_below (a := ⟨w.heap.size + 1, 2, none⟩) (v := .int .i64 z) (by go_cell) hb; have AC := Lib.hid (Below.next (a := w) (by go_grown) hb); clear hb)
  go_ret
  exact ⟨rfl, AC.out⟩
end Go.Proofs.YtlelcecbpahliaaGreatDoor
