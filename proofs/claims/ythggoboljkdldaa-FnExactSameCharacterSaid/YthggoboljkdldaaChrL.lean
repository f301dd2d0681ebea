/- The laws' own words on characters: their size, their copy, their comparison. -/
import Derived.Test.YthggoboljkdldaaChrI
import Derived.Test.YthggoboljkdldaaOwnK
import Derived.Test.YthggoboljkdldaaArgI
namespace Go.Proofs.Ythggoboljkdldaa
open Go.ChangeShapes Go.WideShapes Go.ChangeAt Go.RowKit Pm

theorem szints_any (g : List Int) (a : Option Addr) (c : Nat) (left : Int) (w : World) (h0 : 0 ≤ left) (h1 : left ≤ 1048576) (hg : g.length ≤ maxLen) :
    Calls Try.prog 9 #[.slice a g.length c, .int .i64 left] w fun e w' => e = .returned (.int .i64 (if left < g.length then -1 else left - g.length)) ∧ w = w' := by
  unfold maxLen at hg
  by_cases h : left < (g.length : Int)
  · rw [if_pos h]
    have h2 : left - (g.length : Int) < 0 := by omega
    go_enter Try.func9, Try.ntmps9
    go_wp2
    go_ret
    exact ⟨rfl, rfl⟩
  · rw [if_neg h]
    have h2 : ¬ left - (g.length : Int) < 0 := by omega
    go_enter Try.func9, Try.ntmps9
    go_wp2
    go_ret
    exact ⟨rfl, rfl⟩
/-- What is left of a size behind a character; -1 where it is too long. -/
def szV (g : List Int) (s t : ByteArray) (left : Int) : Int :=
  if left < g.length then -1 else if left - g.length < s.size then -1 else if left - g.length - s.size < t.size then -1 else left - g.length - s.size - t.size
theorem szV_cases (g : List Int) (s t : ByteArray) (left : Int) (h : left ≤ 1048576) : szV g s t left = -1 ∨ (0 ≤ szV g s t left ∧ szV g s t left ≤ 1048576 ∧ g.length ≤ 1048576 ∧ s.size ≤ 1048576 ∧ t.size ≤ 1048576) := by
  unfold szV
  split
  · exact .inl rfl
  · split
    · exact .inl rfl
    · split
      · exact .inl rfl
      · exact .inr (by omega)
theorem szchr_any (k p : Int) (g : List Int) (s t : ByteArray) (a : Option Addr) (c : Nat) (left : Int) (w : World) (h0 : 0 ≤ left) (h1 : left ≤ 1048576) (hg : g.length ≤ maxLen) (hs : s.size ≤ maxLen) (ht : t.size ≤ maxLen) :
    Calls Try.prog 4 #[.agg #[.int .i64 k, .slice a g.length c, .string s, .string t, .int .i64 p], .int .i64 left] w fun e w' => e = .returned (.int .i64 (szV g s t left)) ∧ Below w.heap.size w w' := by
  have HG := fun w => szints_any g a c left w h0 h1 hg
  unfold maxLen at hg hs ht
  by_cases c1 : left < (g.length : Int)
  · have HV := Lib.hid (show szV g s t left = -1 by unfold szV; rw [if_pos c1])
    rw [if_pos c1] at HG
    have HG := Lib.hid HG
    clear c1
    go_enter Try.func4, Try.ntmps4
    go_wp2_with (go_at_call 9; refine (HG.out _).mono ?_; rintro e w' ⟨rfl, rfl⟩)
    go_ret
    exact ⟨ret_i HV.out.symm, by go_grown⟩
  · rw [if_neg c1] at HG
    obtain ⟨l1, hl1⟩ : ∃ l1, l1 = left - (g.length : Int) := ⟨_, rfl⟩
    rw [← hl1] at HG
    have b0 : 0 ≤ l1 := by omega
    have b1 : l1 ≤ 1048576 := by omega
    have HG := Lib.hid HG
    have HV0 := Lib.hid (show szV g s t left = if l1 < s.size then -1 else if l1 - s.size < t.size then -1 else l1 - s.size - t.size by unfold szV; rw [if_neg c1, ← hl1])
    have bn : ¬ l1 < 0 := by omega
    clear c1 hl1
    by_cases c2 : l1 < (s.size : Int)
    · have HV := Lib.hid (show szV g s t left = -1 by rw [HV0.out, if_pos c2])
      have h2 : l1 - (s.size : Int) < 0 := by omega
      go_enter Try.func4, Try.ntmps4
      go_wp2_with (go_at_call 9; refine (HG.out _).mono ?_; rintro e w' ⟨rfl, rfl⟩)
      go_ret
      exact ⟨ret_i HV.out.symm, by go_grown⟩
    · have h2 : ¬ l1 - (s.size : Int) < 0 := by omega
      by_cases c3 : l1 - (s.size : Int) < (t.size : Int)
      · have HV := Lib.hid (show szV g s t left = -1 by rw [HV0.out, if_neg c2, if_pos c3])
        have h3 : l1 - (s.size : Int) - (t.size : Int) < 0 := by omega
        go_enter Try.func4, Try.ntmps4
        go_wp2_with (go_at_call 9; refine (HG.out _).mono ?_; rintro e w' ⟨rfl, rfl⟩)
        go_ret
        exact ⟨ret_i HV.out.symm, by go_grown⟩
      · have HV := Lib.hid (show szV g s t left = l1 - s.size - t.size by rw [HV0.out, if_neg c2, if_neg c3])
        have h3 : ¬ l1 - (s.size : Int) - (t.size : Int) < 0 := by omega
        go_enter Try.func4, Try.ntmps4
        go_wp2_with (go_at_call 9; refine (HG.out _).mono ?_; rintro e w' ⟨rfl, rfl⟩)
        go_ret
        exact ⟨ret_i HV.out.symm, by go_grown⟩

theorem own_ints {w : World} {B : Nat} {v : Value} {g : List Int} (h : w.ownsRow B 2 1 v (g.map (Value.int .i64)).length (g.map (Value.int .i64))) : Ints1 w B v g := by
  unfold Ints1 vals
  rw [List.length_map] at h
  exact h
theorem Ints1.put {w : World} {B : Nat} {v : Value} {g : List Int} (h : Ints1 w B v g) {a : Addr} (ha : a.block < B) (u : Value) : Ints1 (w.setCell a u) B v g := ownsRow_setCell_below h ha u
/-- A character of the call's own. -/
def ChrRet (k : Int) (g : List Int) (s t : ByteArray) (p : Int) (w : World) (e : Ending) (w' : World) : Prop :=
  ∃ gv, e = .returned (.agg #[.int .i64 k, gv, .string s, .string t, .int .i64 p]) ∧ Ints1 w' w.heap.size gv g ∧ Below w.heap.size w w'
set_option maxRecDepth 100000 in
set_option maxHeartbeats 2000000 in
theorem tochr_any (k p : Int) (g : List Int) (s t : ByteArray) (gv : Value) (w : World) (hs : ArgInts .i64 w gv g) (hg : g.length ≤ 1048576) :
    Calls Try.prog 6 #[.agg #[.int .i64 k, gv, .string s, .string t, .int .i64 p]] w (ChrRet k g s t p w) := by
  have HS := Lib.hid hs
  have HT := Lib.hid (fun w' (h : ArgInts .i64 w' gv g) => toints_arg gv g w' h hg)
  obtain ⟨a, c, rfl⟩ := hs.len
  clear hs
  go_enter Try.func6, Try.ntmps6
  go_wp2_with (go_at_call 11; refine (HT.out _ (HS.out.below (by go_grown))).mono ?_; rintro e w1 ⟨v1, rfl, ho, hb⟩; refine Hid.out ?_)
  refine Lib.hid ?_
  have ho2 := (own_ints ho).mono (B' := w.heap.size + 1 + 1 + 1) (by simp)
  obtain ⟨a1, n1, rfl⟩ := ho2.len
  have HO := Lib.hid ho2
  have d0 := cell_below (a := ⟨w.heap.size, 2, none⟩) (v := .string s) (by go_cell) hb
  have d1 := cell_below (a := ⟨w.heap.size, 3, none⟩) (v := .string t) (by go_cell) hb
  have d2 := cell_below (a := ⟨w.heap.size, 4, none⟩) (v := .int .i64 p) (by go_cell) hb
  have c0 := cell_below (a := ⟨w.heap.size + 1 + 1, 0, none⟩) (v := .int .i64 k) (by go_cell) hb
  have e1 := cell_below (a := ⟨w.heap.size + 1 + 1, 1, none⟩) (v := .slice none 0 0) (by go_cell) hb
  have e2 := cell_below (a := ⟨w.heap.size + 1 + 1, 2, none⟩) (v := .string ⟨#[]⟩) (by go_cell) hb
  have e3 := cell_below (a := ⟨w.heap.size + 1 + 1, 3, none⟩) (v := .string ⟨#[]⟩) (by go_cell) hb
  have e4 := cell_below (a := ⟨w.heap.size + 1 + 1, 4, none⟩) (v := .int .i64 0) (by go_cell) hb
  have r0 := cell_below (a := ⟨w.heap.size + 1, 0, none⟩) (v := .int .i64 0) (by go_cell) hb
  have r1 := cell_below (a := ⟨w.heap.size + 1, 1, none⟩) (v := .slice none 0 0) (by go_cell) hb
  have r2 := cell_below (a := ⟨w.heap.size + 1, 2, none⟩) (v := .string ⟨#[]⟩) (by go_cell) hb
  have r3 := cell_below (a := ⟨w.heap.size + 1, 3, none⟩) (v := .string ⟨#[]⟩) (by go_cell) hb
  have r4 := cell_below (a := ⟨w.heap.size + 1, 4, none⟩) (v := .int .i64 0) (by go_cell) hb
  have f1 : w1.frozen? ⟨w.heap.size + 1 + 1, 1, none⟩ = false := by rw [hb.frozen (by simp)]; go_simp
  have f2 : w1.frozen? ⟨w.heap.size + 1 + 1, 2, none⟩ = false := by rw [hb.frozen (by simp)]; go_simp
  have f3 : w1.frozen? ⟨w.heap.size + 1 + 1, 3, none⟩ = false := by rw [hb.frozen (by simp)]; go_simp
  have f4 : w1.frozen? ⟨w.heap.size + 1 + 1, 4, none⟩ = false := by rw [hb.frozen (by simp)]; go_simp
  have g0 : w1.frozen? ⟨w.heap.size + 1, 0, none⟩ = false := by rw [hb.frozen (by simp)]; go_simp
  have g1 : w1.frozen? ⟨w.heap.size + 1, 1, none⟩ = false := by rw [hb.frozen (by simp)]; go_simp
  have g2 : w1.frozen? ⟨w.heap.size + 1, 2, none⟩ = false := by rw [hb.frozen (by simp)]; go_simp
  have g3 : w1.frozen? ⟨w.heap.size + 1, 3, none⟩ = false := by rw [hb.frozen (by simp)]; go_simp
  have g4 : w1.frozen? ⟨w.heap.size + 1, 4, none⟩ = false := by rw [hb.frozen (by simp)]; go_simp
  have az := hb.size
  have HB := Lib.hid (Below.next (a := w) (by go_grown) hb)
  clear ho ho2 hb
  go_wp2
  refine bodyPost_ret (v := .agg #[.int .i64 k, .slice a1 g.length n1, .string s, .string t, .int .i64 p]) (by simp [results, Try.results6, go_sem, *]) rfl ⟨_, rfl, ?_, ?_⟩
  · refine Ints1.mono (B := w.heap.size + 1 + 1 + 1) ?_ (by omega)
    iterate 9 (refine Ints1.put ?_ (by simp only; omega) _)
    exact HO.out
  · iterate 9 (refine Below.setCell ?_ (by simp only; omega) _)
    exact HB.out

/-- A character compared with one that has the same fields. -/
theorem eqchr_same (k p : Int) (g : List Int) (s t : ByteArray) (v1 v2 : Value) (w : World) (h1 : IntsAre .i64 w v1 g) (h2 : IntsAre .i64 w v2 g) :
    Calls Try.prog 8 #[.agg #[.int .i64 k, v1, .string s, .string t, .int .i64 p], .agg #[.int .i64 k, v2, .string s, .string t, .int .i64 p]] w fun e w' => e = .returned (.bool true) ∧ Below w.heap.size w w' := by
  have H1 := Lib.hid h1
  have H2 := Lib.hid h2
  have HE := Lib.hid (fun w' (a : IntsAre .i64 w' v1 g) (b : IntsAre .i64 w' v2 g) => eqints_same v1 v2 g w' a b)
  obtain ⟨a1, n1, rfl⟩ := len_form h1
  obtain ⟨a2, n2, rfl⟩ := len_form h2
  clear h1 h2
  go_enter Try.func8, Try.ntmps8
  go_wp2_with (go_at_call 13; refine (HE.out _ (H1.out.below (by go_grown)) (H2.out.below (by go_grown))).mono ?_; rintro e w1 ⟨rfl, nq, rfl⟩)
  go_ret
  exact ⟨rfl, below_drewN (by go_grown) nq⟩
end Go.Proofs.Ythggoboljkdldaa
