/- The usual marks: the program's and the model's. -/
import Derived.Test.YthheacebafleeaaDoorMrkF
import Derived.Test.YthheacebafleeaaDoorMrkS
namespace Go.Proofs.YthheacebafleeaaDoor
open Go.ChangeShapes Go.WideShapes Go.ChangeAt Go.RowKit Pm

theorem mfrozen_below {w w' : World} {a : Addr} (h : w.frozen? a = false) (hl : a.block < w.heap.size) (hb : Below w.heap.size w w') : w'.frozen? a = false := by
  rw [hb.frozen hl]; exact h
theorem lt_of_mcell {w : World} {b off : Nat} {v : Value} (h : w.cell? ⟨b, off, none⟩ = some v) : b < w.heap.size := by
  rcases Nat.lt_or_ge b w.heap.size with h1 | h1
  · exact h1
  · have : w.heap[b]? = none := Array.getElem?_eq_none h1
    simp [World.cell?, this] at h
/-- The usual mark of a kind. -/
def stdV (k : Int) : Value := if inB 1 9 [k] then .agg #[.int .i64 k, .string (mkF k 1), .string ((mkShapes k).getD 0 ByteArray.empty), .string (mkF k 3)] else .agg #[.int .i64 0, .string ⟨#[]⟩, .string ⟨#[]⟩, .string ⟨#[]⟩]
theorem first_shape {w : World} {n : Nat} {zs : List ByteArray} (h : ∀ j, j < zs.length → w.cell? ⟨n, 0 + j, none⟩ = some (.string (zs.getD j ByteArray.empty))) (h0 : 0 < zs.length) : w.cell? ⟨n, 0, none⟩ = some (.string (zs.getD 0 ByteArray.empty)) := h 0 h0
theorem shape_ret {P : Program} {f : FuncId} {args : Array Value} {w' : World} {zs : List ByteArray} {z : ByteArray} (hz : z = zs.getD 0 ByteArray.empty) (h0 : 0 < zs.length)
    (h : Calls P f args w' fun e w'' => ∃ n, e = .returned (.slice (some ⟨n, 0, none⟩) zs.length zs.length) ∧ StrsAt w'' n zs ∧ w'.heap.size ≤ n ∧ Below w'.heap.size w' w'') :
    Calls P f args w' fun e w'' => ∃ n, e = .returned (.slice (some ⟨n, 0, none⟩) zs.length zs.length) ∧ w''.cell? ⟨n, 0, none⟩ = some (.string z) ∧ w'.heap.size ≤ n ∧ Below w'.heap.size w' w'' := by
  refine h.mono ?_
  rintro e w'' ⟨n, he, hst, hn, hb⟩
  exact ⟨n, he, hz ▸ first_shape hst h0, hn, hb⟩
theorem shape_ret2 {P : Program} {f : FuncId} {args : Array Value} {w' : World} {zs : List ByteArray} {z : ByteArray} (hz : z = zs.getD 0 ByteArray.empty) (h0 : 0 < zs.length)
    (h : Calls P f args w' fun e w'' => e = .returned (.slice (some ⟨w'.heap.size, 0, none⟩) zs.length zs.length) ∧ StrRow w'' w'.heap.size zs ∧ Below w'.heap.size w' w'') :
    Calls P f args w' fun e w'' => ∃ n, e = .returned (.slice (some ⟨n, 0, none⟩) zs.length zs.length) ∧ w''.cell? ⟨n, 0, none⟩ = some (.string z) ∧ w'.heap.size ≤ n ∧ Below w'.heap.size w' w'' := by
  refine h.mono ?_
  rintro e w'' ⟨he, hst, hb⟩
  exact ⟨_, he, hz ▸ first_shape hst h0, Nat.le_refl _, hb⟩
set_option maxRecDepth 100000 in
set_option maxHeartbeats 4000000 in
theorem stdmark_any (k : Int) (w : World) (hM : MarksAt w) (hS : SpaceAt w) :
    Calls Tryd.prog 16 #[.int .i64 k] w fun e w' => e = .returned (.tuple #[stdV k, .int .i64 (if inB 1 9 [k] then 0 else 2)]) ∧ Below w.heap.size w w' := by
  have HL := fun w => haslook_any k w
  unfold stdV
  cases h : inB 1 9 [k]
  · rw [h] at HL
    have HL := Lib.hid HL
    clear h hM hS
    simp only [Bool.false_eq_true, if_false]
    go_enter Tryd.func16, Tryd.ntmps16
    go_wp2_with (go_at_call 41; refine (HL.out _).mono ?_; rintro e w1 ⟨rfl, hb⟩; refine Hid.out ?_)
    refine Lib.hid ?_
    have d0 : w1.cell? ⟨w.heap.size, 0, none⟩ = some (.int .i64 0) := cell_below (by simp) hb
    have g0 : w1.frozen? ⟨w.heap.size, 0, none⟩ = false := mfrozen_below (by simp) (by simp) hb
    have d1 : w1.cell? ⟨w.heap.size, 1, none⟩ = some (.string ⟨#[]⟩) := cell_below (by simp) hb
    have g1 : w1.frozen? ⟨w.heap.size, 1, none⟩ = false := mfrozen_below (by simp) (by simp) hb
    have d2 : w1.cell? ⟨w.heap.size, 2, none⟩ = some (.string ⟨#[]⟩) := cell_below (by simp) hb
    have g2 : w1.frozen? ⟨w.heap.size, 2, none⟩ = false := mfrozen_below (by simp) (by simp) hb
    have d3 : w1.cell? ⟨w.heap.size, 3, none⟩ = some (.string ⟨#[]⟩) := cell_below (by simp) hb
    have g3 : w1.frozen? ⟨w.heap.size, 3, none⟩ = false := mfrozen_below (by simp) (by simp) hb
    have hz1 : w.heap.size < w1.heap.size := by have h := hb.size; simp at h; omega
    have ac : Below w.heap.size w w1 := Below.next (a := w) (by go_grown) hb
    clear hb
    have HB := Lib.hid ac
    clear ac
    go_wp2
    refine bodyPost_ret (v := .tuple #[.agg #[.int .i64 0, .string ⟨#[]⟩, .string ⟨#[]⟩, .string ⟨#[]⟩], .int .i64 2]) (by simp [results, Tryd.results16, go_sem, *]) rfl ⟨rfl, ?_⟩
    iterate 4 (refine Below.setCell ?_ (by exact Nat.le_refl _) _)
    exact HB.out
  · rw [h] at HL
    have hp := shapes_pos h
    have HR := Lib.hid (fun w' (hb : Below w.heap.size w w') => markrow_any k w' (hM.below hb))
    have HN := fun w' (hb : Below w.heap.size w w') => shapenames_any k w' (hS.below hb)
    have HL := Lib.hid HL
    clear h hM hS
    simp only [if_true]
    unfold rowV at *
    obtain ⟨z, hz⟩ : ∃ z, z = (mkShapes k).getD 0 ByteArray.empty := ⟨_, rfl⟩
    rw [← hz]
    replace HN := Lib.hid (fun w' (hb : Below w.heap.size w w') => shape_ret hz hp (HN w' hb))
    generalize (mkShapes k).length = m at *
    clear hz
    generalize mkF k 0 = s0 at *
    generalize mkF k 1 = s1 at *
    generalize mkF k 2 = s2 at *
    generalize mkF k 3 = s3 at *
    generalize mkF k 4 = s4 at *
    generalize mkF k 5 = s5 at *
    generalize mkF k 6 = s6 at *
    have hm0 : (0 : Int) < (m : Int) := by omega
    go_enter Tryd.func16, Tryd.ntmps16
    go_wp2_with (go_at_call 41; refine (HL.out _).mono ?_; rintro e w1 ⟨rfl, hb⟩; refine Hid.out ?_)
    refine Lib.hid ?_
    have d0 : w1.cell? ⟨w.heap.size, 0, none⟩ = some (.int .i64 0) := cell_below (by simp) hb
    have g0 : w1.frozen? ⟨w.heap.size, 0, none⟩ = false := mfrozen_below (by simp) (by simp) hb
    have d1 : w1.cell? ⟨w.heap.size, 1, none⟩ = some (.string ⟨#[]⟩) := cell_below (by simp) hb
    have g1 : w1.frozen? ⟨w.heap.size, 1, none⟩ = false := mfrozen_below (by simp) (by simp) hb
    have d2 : w1.cell? ⟨w.heap.size, 2, none⟩ = some (.string ⟨#[]⟩) := cell_below (by simp) hb
    have g2 : w1.frozen? ⟨w.heap.size, 2, none⟩ = false := mfrozen_below (by simp) (by simp) hb
    have d3 : w1.cell? ⟨w.heap.size, 3, none⟩ = some (.string ⟨#[]⟩) := cell_below (by simp) hb
    have g3 : w1.frozen? ⟨w.heap.size, 3, none⟩ = false := mfrozen_below (by simp) (by simp) hb
    have hz1 : w.heap.size < w1.heap.size := by have h := hb.size; simp at h; omega
    have ac : Below w.heap.size w w1 := Below.next (a := w) (by go_grown) hb
    clear hb
    go_wp2_with (go_at_call 35; refine (HR.out _ ac).mono ?_; rintro e w2 ⟨rfl, hb⟩; refine Hid.out ?_)
    refine Lib.hid ?_
    replace d0 := cell_below d0 hb
    replace g0 := mfrozen_below g0 hz1 hb
    replace d1 := cell_below d1 hb
    replace g1 := mfrozen_below g1 hz1 hb
    replace d2 := cell_below d2 hb
    replace g2 := mfrozen_below g2 hz1 hb
    replace d3 := cell_below d3 hb
    replace g3 := mfrozen_below g3 hz1 hb
    have hz2 : w.heap.size < w2.heap.size := Nat.lt_of_lt_of_le hz1 hb.size
    replace ac := Below.next ac hb
    have AC := Lib.hid ac
    clear hb hz1
    go_wp2_with (fail)
    go_region_with (first
      | (go_at_call 42; (with_reducible refine (HN.out _ (Below.next AC.out (by go_grown))).mono ?_); rintro e w3 ⟨n, rfl, hst, hn, hb⟩; have d0 := cell_below (a := ⟨w.heap.size, 0, none⟩) (v := .int .i64 0) (by first | assumption | go_cell) hb; have d1 := cell_below (a := ⟨w.heap.size, 1, none⟩) (v := .string ⟨#[]⟩) (by first | assumption | go_cell) hb; have d2 := cell_below (a := ⟨w.heap.size, 2, none⟩) (v := .string ⟨#[]⟩) (by first | assumption | go_cell) hb; have d3 := cell_below (a := ⟨w.heap.size, 3, none⟩) (v := .string ⟨#[]⟩) (by first | assumption | go_cell) hb; have g0 := mfrozen_below (a := ⟨w.heap.size, 0, none⟩) (by first | assumption | go_simp) (by first | assumption | (simp; done) | omega | (simp; omega)) hb; have g1 := mfrozen_below (a := ⟨w.heap.size, 1, none⟩) (by first | assumption | go_simp) (by first | assumption | (simp; done) | omega | (simp; omega)) hb; have g2 := mfrozen_below (a := ⟨w.heap.size, 2, none⟩) (by first | assumption | go_simp) (by first | assumption | (simp; done) | omega | (simp; omega)) hb; have g3 := mfrozen_below (a := ⟨w.heap.size, 3, none⟩) (by first | assumption | go_simp) (by first | assumption | (simp; done) | omega | (simp; omega)) hb; have e0 := cell_below (a := ⟨w2.heap.size, 0, none⟩) (v := .string s0) (by first | assumption | go_cell) hb; have e1 := cell_below (a := ⟨w2.heap.size, 1, none⟩) (v := .string s1) (by first | assumption | go_cell) hb; have e2 := cell_below (a := ⟨w2.heap.size, 2, none⟩) (v := .string s2) (by first | assumption | go_cell) hb; have e3 := cell_below (a := ⟨w2.heap.size, 3, none⟩) (v := .string s3) (by first | assumption | go_cell) hb; have e4 := cell_below (a := ⟨w2.heap.size, 4, none⟩) (v := .string s4) (by first | assumption | go_cell) hb; have e5 := cell_below (a := ⟨w2.heap.size, 5, none⟩) (v := .string s5) (by first | assumption | go_cell) hb; have e6 := cell_below (a := ⟨w2.heap.size, 6, none⟩) (v := .string s6) (by first | assumption | go_cell) hb; have hz4 : n < w3.heap.size := lt_of_mcell hst; have hz3 : w2.heap.size < w3.heap.size := (by have h := hb.size; simp at h; omega); have hz5 : w.heap.size < w3.heap.size := (by omega); have ac3 := Below.next AC.out (Below.next (a := w2) (by go_grown) hb); have AC3 := Lib.hid ac3; clear ac3 hb))
    all_goals
      go_wp2_with (fail)
      refine bodyPost_ret (v := .tuple #[.agg #[.int .i64 k, .string s1, .string z, .string s3], .int .i64 0]) (by simp [results, Tryd.results16, go_sem, *]) rfl ⟨rfl, ?_⟩
      iterate 4 (refine Below.setCell ?_ (by exact Nat.le_refl _) _)
      exact AC3.out
end Go.Proofs.YthheacebafleeaaDoor
