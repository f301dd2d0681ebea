/- Points between two ends, of the program. -/
import Derived.Test.YtcoldhdghcdaeaaDistS
import Derived.Deep.RegionHeld3
namespace Go.Proofs.Ytcoldhdghcdaeaa
open Go.ChangeShapes Go.WideShapes Go.ChangeAt Go.RowKit Pm

theorem frozen_below {w w' : World} {a : Addr} (h : w.frozen? a = false) (hl : a.block < w.heap.size) (hb : Below w.heap.size w w') : w'.frozen? a = false := by
  rw [hb.frozen hl]; exact h

def okRange (i n : Int) : Bool := inB 1 1000000 [n] && inB 0 n [i]
def btwE (ax ay bx cy i n : Int) : Int := if (okB (ax, ay) && okB (bx, cy)) = true then (if okRange i n = true then 0 else 2) else 1
def btwPX (ax ay bx cy i n : Int) : Int := if btwE ax ay bx cy i n = 0 then btwX ax ay bx cy i n else 0
def btwPY (ax ay bx cy i n : Int) : Int := if btwE ax ay bx cy i n = 0 then btwY ax ay bx cy i n else 0
theorem btwE0 {ax ay bx cy i n : Int} (h : (okB (ax, ay) && okB (bx, cy)) = true) (k : okRange i n = true) : btwE ax ay bx cy i n = 0 := by unfold btwE; rw [if_pos h, if_pos k]
theorem btwE1 {ax ay bx cy i n : Int} (h : (okB (ax, ay) && okB (bx, cy)) = false) : btwE ax ay bx cy i n = 1 := by unfold btwE; rw [if_neg (by simp [h])]
theorem btwE2 {ax ay bx cy i n : Int} (h : (okB (ax, ay) && okB (bx, cy)) = true) (k : okRange i n = false) : btwE ax ay bx cy i n = 2 := by unfold btwE; rw [if_pos h, if_neg (by simp [k])]
theorem ret_b {x y c x' y' c' : Int} (h1 : x = x') (h2 : y = y') (h3 : c = c') :
    Ending.returned (.tuple #[.agg #[.int .i64 x, .int .i64 y], .int .i64 c]) = Ending.returned (.tuple #[.agg #[.int .i64 x', .int .i64 y'], .int .i64 c']) := by rw [h1, h2, h3]

theorem divround_at (a b : Int) (w : World) (a0 : -1000000000000 ≤ a) (a1 : a ≤ 1000000000000) (b0 : 0 < b) (b1 : b ≤ 1000000000000) :
    Calls Try.prog 107 #[.int .i64 a, .int .i64 b] w fun e w' => e = .returned (.int .i64 (dvr a b)) ∧ w' = w.alloc (.cells #[.int .i64 a, .int .i64 b] 2) := by
  have hb0 : (b == 0) = false := by simp; omega
  have h1 : inB (-1000000000000) 1000000000000 [a, b] = true := by simp [inB]; omega
  have H2 := ints_two w a b
  go_enter Try.func107, Try.ntmps107
  go_wp2_with (first | (go_at_call 44; refine (within_any _ _ _ _ _ H2).mono ?_; rintro e w' ⟨rfl, rfl⟩) | (go_at_call 120; refine (nq_any _ _ _ (by omega) (by omega) (by omega) (by omega) (by omega)).mono ?_; rintro e w' ⟨rfl, rfl⟩))
  go_ret
  exact ⟨rfl, rfl⟩

theorem between_no (ax ay bx cy i n : Int) (w : World) (h : btwE ax ay bx cy i n ≠ 0) :
    Calls Try.prog 86 #[.agg #[.int .i64 ax, .int .i64 ay], .agg #[.int .i64 bx, .int .i64 cy], .int .i64 i, .int .i64 n] w fun e w' => e = .returned (.tuple #[.agg #[.int .i64 (btwPX ax ay bx cy i n), .int .i64 (btwPY ax ay bx cy i n)], .int .i64 (btwE ax ay bx cy i n)]) ∧ Below w.heap.size w w' := by
  have hx : btwPX ax ay bx cy i n = 0 := by unfold btwPX; rw [if_neg h]
  have hy : btwPY ax ay bx cy i n = 0 := by unfold btwPY; rw [if_neg h]
  have HX := Lib.hid hx
  have HY := Lib.hid hy
  have e2 : [(ax, ay), (bx, cy)].all okB = (okB (ax, ay) && okB (bx, cy)) := by simp
  cases hc : (okB (ax, ay) && okB (bx, cy))
  · have HE := Lib.hid (btwE1 (i := i) (n := n) hc)
    rw [hc] at e2
    have E2 := Lib.hid e2
    clear hx hy h e2 hc
    go_enter Try.func86, Try.ntmps86
    go_wp2_with (first
      | (go_at_call 42; refine (arepts_any _ _ _ (pts_two _ _ _ _ _ _ (by simp))).mono ?_; rintro e w1 ⟨rfl, hb⟩; rw [E2.out]; have ac := Below.next (a := w) (by go_grown) hb; have c0 := cell_below (a := ⟨w.heap.size + 1 + 1, 0, none⟩) (v := .int .i64 0) (by go_cell) hb; have c1 := cell_below (a := ⟨w.heap.size + 1 + 1, 1, none⟩) (v := .int .i64 0) (by go_cell) hb; have hz00 : w.heap.size < w1.heap.size := (by have := hb.size; (try simp at this); omega); have hz01 : w.heap.size < w1.heap.size + 1 := (by have := hb.size; (try simp at this); omega); have hz02 : w.heap.size < w1.heap.size + 1 + 1 := (by have := hb.size; (try simp at this); omega); have hz10 : w.heap.size + 1 < w1.heap.size := (by have := hb.size; (try simp at this); omega); have hz11 : w.heap.size + 1 < w1.heap.size + 1 := (by have := hb.size; (try simp at this); omega); have hz12 : w.heap.size + 1 < w1.heap.size + 1 + 1 := (by have := hb.size; (try simp at this); omega); have hz20 : w.heap.size + 1 + 1 < w1.heap.size := (by have := hb.size; (try simp at this); omega); have hz21 : w.heap.size + 1 + 1 < w1.heap.size + 1 := (by have := hb.size; (try simp at this); omega); have hz22 : w.heap.size + 1 + 1 < w1.heap.size + 1 + 1 := (by have := hb.size; (try simp at this); omega); have f20 := frozen_below (a := ⟨w.heap.size + 1 + 1, 0, none⟩) (by go_simp) (by first | omega | (simp; done) | (simp; omega)) hb; have f21 := frozen_below (a := ⟨w.heap.size + 1 + 1, 1, none⟩) (by go_simp) (by first | omega | (simp; done) | (simp; omega)) hb; clear hb))
    refine bodyPost_ret (v := .tuple #[.agg #[.int .i64 0, .int .i64 0], .int .i64 1]) (by simp [results, Try.results86, go_sem, *]) rfl ⟨ret_b HX.out.symm HY.out.symm HE.out.symm, by go_grown⟩
  · have hr : okRange i n = false := by
      cases hr : okRange i n
      · rfl
      · exact absurd (btwE0 hc hr) h
    have HE := Lib.hid (btwE2 hc hr)
    rw [hc] at e2
    have E2 := Lib.hid e2
    unfold okRange at hr
    clear hx hy h e2 hc
    cases hn : inB 1 1000000 [n]
    · clear hr
      go_enter Try.func86, Try.ntmps86
      go_wp2_with (first
        | (go_at_call 42; refine (arepts_any _ _ _ (pts_two _ _ _ _ _ _ (by simp))).mono ?_; rintro e w1 ⟨rfl, hb⟩; rw [E2.out]; have ac := Below.next (a := w) (by go_grown) hb; have c0 := cell_below (a := ⟨w.heap.size, 0, none⟩) (v := .int .i64 ax) (by go_cell) hb; have c1 := cell_below (a := ⟨w.heap.size, 1, none⟩) (v := .int .i64 ay) (by go_cell) hb; have c2 := cell_below (a := ⟨w.heap.size + 1, 0, none⟩) (v := .int .i64 bx) (by go_cell) hb; have c3 := cell_below (a := ⟨w.heap.size + 1, 1, none⟩) (v := .int .i64 cy) (by go_cell) hb; have c4 := cell_below (a := ⟨w.heap.size + 1 + 1, 0, none⟩) (v := .int .i64 0) (by go_cell) hb; have c5 := cell_below (a := ⟨w.heap.size + 1 + 1, 1, none⟩) (v := .int .i64 0) (by go_cell) hb; have hz00 : w.heap.size < w1.heap.size := (by have := hb.size; (try simp at this); omega); have hz01 : w.heap.size < w1.heap.size + 1 := (by have := hb.size; (try simp at this); omega); have hz02 : w.heap.size < w1.heap.size + 1 + 1 := (by have := hb.size; (try simp at this); omega); have hz10 : w.heap.size + 1 < w1.heap.size := (by have := hb.size; (try simp at this); omega); have hz11 : w.heap.size + 1 < w1.heap.size + 1 := (by have := hb.size; (try simp at this); omega); have hz12 : w.heap.size + 1 < w1.heap.size + 1 + 1 := (by have := hb.size; (try simp at this); omega); have hz20 : w.heap.size + 1 + 1 < w1.heap.size := (by have := hb.size; (try simp at this); omega); have hz21 : w.heap.size + 1 + 1 < w1.heap.size + 1 := (by have := hb.size; (try simp at this); omega); have hz22 : w.heap.size + 1 + 1 < w1.heap.size + 1 + 1 := (by have := hb.size; (try simp at this); omega); have f20 := frozen_below (a := ⟨w.heap.size + 1 + 1, 0, none⟩) (by go_simp) (by first | omega | (simp; done) | (simp; omega)) hb; have f21 := frozen_below (a := ⟨w.heap.size + 1 + 1, 1, none⟩) (by go_simp) (by first | omega | (simp; done) | (simp; omega)) hb; clear hb)
        | (go_at_call 44; refine (within_any _ _ _ _ _ (ints_one_at _ _ _ (by simp))).mono ?_; rintro e w1 ⟨rfl, rfl⟩))
      refine bodyPost_ret (v := .tuple #[.agg #[.int .i64 0, .int .i64 0], .int .i64 2]) (by simp [results, Try.results86, go_sem, *]) rfl ⟨ret_b HX.out.symm HY.out.symm HE.out.symm, by go_grown⟩
    · have hi : inB 0 n [i] = false := by rw [hn] at hr; simpa using hr
      clear hr
      go_enter Try.func86, Try.ntmps86
      go_wp2_with (first
        | (go_at_call 42; refine (arepts_any _ _ _ (pts_two _ _ _ _ _ _ (by simp))).mono ?_; rintro e w1 ⟨rfl, hb⟩; rw [E2.out]; have ac := Below.next (a := w) (by go_grown) hb; have c0 := cell_below (a := ⟨w.heap.size, 0, none⟩) (v := .int .i64 ax) (by go_cell) hb; have c1 := cell_below (a := ⟨w.heap.size, 1, none⟩) (v := .int .i64 ay) (by go_cell) hb; have c2 := cell_below (a := ⟨w.heap.size + 1, 0, none⟩) (v := .int .i64 bx) (by go_cell) hb; have c3 := cell_below (a := ⟨w.heap.size + 1, 1, none⟩) (v := .int .i64 cy) (by go_cell) hb; have c4 := cell_below (a := ⟨w.heap.size + 1 + 1, 0, none⟩) (v := .int .i64 0) (by go_cell) hb; have c5 := cell_below (a := ⟨w.heap.size + 1 + 1, 1, none⟩) (v := .int .i64 0) (by go_cell) hb; have hz00 : w.heap.size < w1.heap.size := (by have := hb.size; (try simp at this); omega); have hz01 : w.heap.size < w1.heap.size + 1 := (by have := hb.size; (try simp at this); omega); have hz02 : w.heap.size < w1.heap.size + 1 + 1 := (by have := hb.size; (try simp at this); omega); have hz10 : w.heap.size + 1 < w1.heap.size := (by have := hb.size; (try simp at this); omega); have hz11 : w.heap.size + 1 < w1.heap.size + 1 := (by have := hb.size; (try simp at this); omega); have hz12 : w.heap.size + 1 < w1.heap.size + 1 + 1 := (by have := hb.size; (try simp at this); omega); have hz20 : w.heap.size + 1 + 1 < w1.heap.size := (by have := hb.size; (try simp at this); omega); have hz21 : w.heap.size + 1 + 1 < w1.heap.size + 1 := (by have := hb.size; (try simp at this); omega); have hz22 : w.heap.size + 1 + 1 < w1.heap.size + 1 + 1 := (by have := hb.size; (try simp at this); omega); have f20 := frozen_below (a := ⟨w.heap.size + 1 + 1, 0, none⟩) (by go_simp) (by first | omega | (simp; done) | (simp; omega)) hb; have f21 := frozen_below (a := ⟨w.heap.size + 1 + 1, 1, none⟩) (by go_simp) (by first | omega | (simp; done) | (simp; omega)) hb; clear hb)
        | (go_at_call 44; refine (within_any _ _ _ _ _ (ints_one_at _ _ _ (by simp))).mono ?_; rintro e w1 ⟨rfl, rfl⟩))
      refine bodyPost_ret (v := .tuple #[.agg #[.int .i64 0, .int .i64 0], .int .i64 2]) (by simp [results, Try.results86, go_sem, *]) rfl ⟨ret_b HX.out.symm HY.out.symm HE.out.symm, by go_grown⟩
end Go.Proofs.Ytcoldhdghcdaeaa
