/- Channels: a law's own words on them (size, copy, comparison). -/
import Derived.Test.YthccbipjmheoaaaPtsE
import Derived.Test.YthccbipjmheoaaaClx
namespace Go.Proofs.Ythccbipjmheoaaa
open Go.ChangeShapes Go.WideShapes Go.ChangeAt Go.RowKit Pm

/-- An owned row of points. -/
def OwnPt (w : World) (B : Nat) (v : Value) (ps : List (Int × Int)) : Prop := w.ownsRow B 33 2 v ps.length (ptsV ps)
theorem OwnPt.below {w w' : World} {B : Nat} {v : Value} {ps : List (Int × Int)} (h : OwnPt w B v ps) (hb : Below w.heap.size w w') : OwnPt w' B v ps := own_below2 h hb
theorem OwnPt.mono {w : World} {B B' : Nat} {v : Value} {ps : List (Int × Int)} (h : OwnPt w B v ps) (hB : B' ≤ B) : OwnPt w B' v ps := by
  refine ⟨h.1, ?_⟩
  rcases h.2 with h2 | ⟨g, cap, cur, h1, h3, h4⟩
  · exact .inl h2
  · exact .inr ⟨g, cap, cur, h1, Nat.le_trans hB h3, h4⟩
theorem OwnPt.put {w : World} {B : Nat} {v : Value} {ps : List (Int × Int)} (h : OwnPt w B v ps) {a : Addr} (ha : a.block < B) (u : Value) : OwnPt (w.setCell a u) B v ps := ownsRow_setCell_below h ha u
theorem OwnPt.drew {w : World} {B : Nat} {v : Value} {ps : List (Int × Int)} (h : OwnPt w B v ps) : OwnPt w.drew B v ps := h.below (Below.refl _ _).drew
/-- A slice that reads as points, its length shown. -/
def PtsL (w : World) (v : Value) (ps : List (Int × Int)) : Prop := ∃ a c, v = .slice a ps.length c ∧ PtsAre w (.slice a ps.length c) ps
theorem PtsL.below {w w' : World} {v : Value} {ps : List (Int × Int)} (h : PtsL w v ps) (hb : Below w.heap.size w w') : PtsL w' v ps := by
  obtain ⟨a, c, rfl, h⟩ := h
  exact ⟨a, c, rfl, h.below hb⟩
theorem PtsL.are {w : World} {v : Value} {ps : List (Int × Int)} (h : PtsL w v ps) : PtsAre w v ps := by
  obtain ⟨a, c, rfl, h⟩ := h
  exact h
theorem OwnPt.pts {w : World} {B : Nat} {v : Value} {ps : List (Int × Int)} (h : OwnPt w B v ps) (hn : ps.length ≤ 1048576) : PtsL w v ps := by
  obtain ⟨a, c, e, hp⟩ := pts_of_own h hn
  exact ⟨a, c, e, hp⟩
theorem OwnPt.form {w : World} {B : Nat} {v : Value} {ps : List (Int × Int)} (h : OwnPt w B v ps) : ∃ a c, v = .slice a ps.length c := by
  rcases h.2 with ⟨h1, h2⟩ | ⟨g, cap, cur, h1, _⟩
  · exact ⟨_, _, by rw [h1, show ps.length = 0 by simpa using h2]⟩
  · exact ⟨_, _, h1⟩

/-- What is left of a size behind a channel. -/
def SzC (s : ByteArray) (n : Nat) (left r : Int) : Prop := r = -1 ∨ (0 ≤ r ∧ r ≤ left ∧ (s.size : Int) ≤ left ∧ (n : Int) ≤ left)
def SzP (n : Nat) (left r : Int) : Prop := r = -1 ∨ (0 ≤ r ∧ r ≤ left ∧ (n : Int) ≤ left)
theorem szpts_any (a : Option Addr) (n c : Nat) (left : Int) (w : World) (hm : n ≤ maxLen) (h0 : 0 ≤ left) (h1 : left ≤ 1048576) :
    Calls Try.prog 37 #[.slice a n c, .int .i64 left] w fun e w' => ∃ r, SzP n left r ∧ e = .returned (.int .i64 r) ∧ Below w.heap.size w w' := by
  unfold maxLen at hm
  by_cases h : left < (n : Int)
  · have h2 : left - (n : Int) < 0 := by omega
    go_enter Try.func37, Try.ntmps37
    go_wp2
    go_ret
    exact ⟨-1, .inl rfl, rfl, by go_grown⟩
  · have h2 : ¬ left - (n : Int) < 0 := by omega
    go_enter Try.func37, Try.ntmps37
    go_wp2
    go_ret
    exact ⟨_, .inr ⟨by omega, by omega, by omega⟩, rfl, by go_grown⟩
theorem szchn_any (s : ByteArray) (z : Int) (a : Option Addr) (n c : Nat) (left : Int) (w : World) (hs : s.size ≤ maxLen) (hm : n ≤ maxLen) (h0 : 0 ≤ left) (h1 : left ≤ 1048576) :
    Calls Try.prog 11 #[.agg #[.string s, .slice a n c, .int .i64 z], .int .i64 left] w fun e w' => ∃ r, SzC s n left r ∧ e = .returned (.int .i64 r) ∧ Below w.heap.size w w' := by
  have HZ := Lib.hid (fun l w' (h : 0 ≤ l ∧ l ≤ 1048576) => szpts_any a n c l w' hm h.1 h.2)
  unfold maxLen at hs
  by_cases h : left < (s.size : Int)
  · have h2 : left - (s.size : Int) < 0 := by omega
    clear HZ
    go_enter Try.func11, Try.ntmps11
    go_wp2
    go_ret
    exact ⟨-1, .inl rfl, rfl, by go_grown⟩
  · have h2 : ¬ left - (s.size : Int) < 0 := by omega
    obtain ⟨l1, hl1⟩ : ∃ l1, l1 = left - (s.size : Int) := ⟨_, rfl⟩
    have HR := Lib.hid (show ∀ r, SzP n l1 r → SzC s n left r from fun r hr => by
      rcases hr with rfl | ⟨r0, r1, r2⟩
      · exact .inl rfl
      · exact .inr ⟨r0, by omega, by omega, by omega⟩)
    have HZ := Lib.hid (fun w' => HZ.out l1 w' (by omega))
    go_enter Try.func11, Try.ntmps11
    rw [hl1] at HZ
    go_wp2_with (go_at_call 37; refine (HZ.out _).mono ?_; rintro e w1 ⟨r, hr, rfl, hb⟩; refine Hid.out ?_)
    refine Lib.hid ?_
    have HR2 := Lib.hid (HR.out r (by rw [hl1]; exact hr))
    have AC := Lib.hid (Below.next (a := w) (by go_grown) hb)
    clear hb
    by_cases hn : r < 0
    · clear hr HR
      go_wp2
      go_ret
      have : r = -1 := by rcases HR2.out with h | h; exact h; omega
      exact ⟨-1, .inl rfl, rfl, AC.out⟩
    · clear hr HR
      go_wp2
      go_ret
      exact ⟨r, HR2.out, rfl, AC.out⟩
/-- A channel of the call's own. -/
def ChnRet (s : ByteArray) (ps : List (Int × Int)) (z : Int) (w : World) (e : Ending) (w' : World) : Prop :=
  ∃ v, e = .returned (.agg #[.string s, v, .int .i64 z]) ∧ OwnPt w' w.heap.size v ps ∧ Below w.heap.size w w'
theorem topts_own (a : Option Addr) (n c : Nat) (ps : List (Int × Int)) (w : World) (h : ArgPts w a n ps) (hn : ps.length ≤ 1048576) :
    Calls Try.prog 39 #[.slice a n c] w (PtsRet ps w) := by
  obtain ⟨rfl, h⟩ := h
  rcases h with rfl | ⟨b, off, rfl, h2⟩
  · exact topts_nil a c w
  · exact topts_row b off c ps w hn h2
set_option maxRecDepth 100000 in
set_option maxHeartbeats 2000000 in
theorem tochn_any (s : ByteArray) (z : Int) (a : Option Addr) (n c : Nat) (ps : List (Int × Int)) (w : World) (h : ArgPts w a n ps) (hn : ps.length ≤ 1048576) :
    Calls Try.prog 13 #[.agg #[.string s, .slice a n c, .int .i64 z]] w (ChnRet s ps z w) := by
  have HS := Lib.hid h
  have HT := Lib.hid (fun w' (h : ArgPts w' a n ps) => topts_own a n c ps w' h hn)
  clear h
  go_enter Try.func13, Try.ntmps13
  go_wp2_with (go_at_call 39; refine (HT.out _ (HS.out.below (by go_grown))).mono ?_; rintro e w1 ⟨v1, rfl, ho, hb⟩; refine Hid.out ?_)
  refine Lib.hid ?_
  have ho2 : OwnPt w1 (w.heap.size + 1 + 1 + 1) v1 ps := OwnPt.mono ho (by simp)
  obtain ⟨a1, n1, rfl⟩ := ho2.form
  have HO := Lib.hid ho2
  have d2 := cell_below (a := ⟨w.heap.size, 2, none⟩) (v := .int .i64 z) (by go_cell) hb
  have c0 := cell_below (a := ⟨w.heap.size + 1 + 1, 0, none⟩) (v := .string s) (by go_cell) hb
  have c1 := cell_below (a := ⟨w.heap.size + 1 + 1, 1, none⟩) (v := .slice none 0 0) (by go_cell) hb
  have c2 := cell_below (a := ⟨w.heap.size + 1 + 1, 2, none⟩) (v := .int .i64 0) (by go_cell) hb
  have r0 := cell_below (a := ⟨w.heap.size + 1, 0, none⟩) (v := .string ⟨#[]⟩) (by go_cell) hb
  have r1 := cell_below (a := ⟨w.heap.size + 1, 1, none⟩) (v := .slice none 0 0) (by go_cell) hb
  have r2 := cell_below (a := ⟨w.heap.size + 1, 2, none⟩) (v := .int .i64 0) (by go_cell) hb
  have f1 : w1.frozen? ⟨w.heap.size + 1 + 1, 1, none⟩ = false := by rw [hb.frozen (by simp)]; go_simp
  have f2 : w1.frozen? ⟨w.heap.size + 1 + 1, 2, none⟩ = false := by rw [hb.frozen (by simp)]; go_simp
  have g0 : w1.frozen? ⟨w.heap.size + 1, 0, none⟩ = false := by rw [hb.frozen (by simp)]; go_simp
  have g1 : w1.frozen? ⟨w.heap.size + 1, 1, none⟩ = false := by rw [hb.frozen (by simp)]; go_simp
  have g2 : w1.frozen? ⟨w.heap.size + 1, 2, none⟩ = false := by rw [hb.frozen (by simp)]; go_simp
  have az := hb.size
  have HB := Lib.hid (Below.next (a := w) (by go_grown) hb)
  clear ho ho2 hb
  go_wp2
  refine bodyPost_ret (v := .agg #[.string s, .slice a1 ps.length n1, .int .i64 z]) (by simp [results, Try.results13, go_sem, *]) rfl ⟨_, rfl, ?_, ?_⟩
  · refine OwnPt.mono (B := w.heap.size + 1 + 1 + 1) ?_ (by omega)
    iterate 5 (refine OwnPt.put ?_ (by simp only; omega) _)
    exact HO.out
  · iterate 5 (refine Below.setCell ?_ (by simp only; omega) _)
    exact HB.out
/-- A channel compared with one that has the same fields. -/
theorem eqchn_same (s : ByteArray) (z : Int) (ps : List (Int × Int)) (v1 v2 : Value) (w : World) (hn : ps.length ≤ 1048576) (h1 : PtsL w v1 ps) (h2 : PtsL w v2 ps) :
    Calls Try.prog 16 #[.agg #[.string s, v1, .int .i64 z], .agg #[.string s, v2, .int .i64 z]] w fun e w' => e = .returned (.bool true) ∧ Below w.heap.size w w' := by
  obtain ⟨a1, c1, rfl, h1⟩ := h1
  obtain ⟨a2, c2, rfl, h2⟩ := h2
  have H1 := Lib.hid h1
  have H2 := Lib.hid h2
  have HE := Lib.hid (fun w' h k => eqpts_same a1 a2 c1 c2 ps w' hn h k)
  clear h1 h2
  go_enter Try.func16, Try.ntmps16
  go_wp2_with (go_at_call 41; refine (HE.out _ (H1.out.below (by go_grown)) (H2.out.below (by go_grown))).mono ?_; rintro e w1 ⟨rfl, hb⟩; have d0 := cell_below (a := ⟨w.heap.size, 2, none⟩) (v := .int .i64 z) (by go_cell) hb; have d1 := cell_below (a := ⟨w.heap.size + 1, 2, none⟩) (v := .int .i64 z) (by go_cell) hb; have AC := Lib.hid (Below.next (a := w) (by go_grown) hb); clear hb)
  go_ret
  exact ⟨rfl, AC.out⟩
end Go.Proofs.Ythccbipjmheoaaa
