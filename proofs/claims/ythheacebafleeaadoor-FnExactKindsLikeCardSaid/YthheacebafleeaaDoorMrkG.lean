/- Kinds of marks that look like some words: the program's test: the simple ways. -/
import Derived.Test.YthheacebafleeaaDoorMrkV
import Derived.Deep.RegionHeld3
namespace Go.Proofs.YthheacebafleeaaDoor
open Go.ChangeShapes Go.WideShapes Go.ChangeAt Go.RowKit Pm

/-- Does a kind look like these words? -/
def likeB (k : Int) (c s t : ByteArray) : Bool := inB 1 9 [k] && (fitB c [mkF k 1] && (fitB s (mkShapes k) && fitB t [mkF k 3]))
theorem glt {w : World} {b off : Nat} {v : Value} (h : w.cell? ⟨b, off, none⟩ = some v) : b < w.heap.size := by
  rcases Nat.lt_or_ge b w.heap.size with h1 | h1
  · exact h1
  · have : w.heap[b]? = none := Array.getElem?_eq_none h1
    simp [World.cell?, this] at h
theorem gkeep {w0 w w' : World} {a0 a1 a2 a3 a4 a5 a6 a7 a8 a9 : Addr} {v0 v1 v2 v3 v4 v5 v6 v7 v8 v9 : Value} (hb : Below w.heap.size w w') (h : w.cell? a0 = some v0 ∧ w.cell? a1 = some v1 ∧ w.cell? a2 = some v2 ∧ w.cell? a3 = some v3 ∧ w.cell? a4 = some v4 ∧ w.cell? a5 = some v5 ∧ w.cell? a6 = some v6 ∧ w.cell? a7 = some v7 ∧ w.cell? a8 = some v8 ∧ w.cell? a9 = some v9 ∧ Below w0.heap.size w0 w) : w'.cell? a0 = some v0 ∧ w'.cell? a1 = some v1 ∧ w'.cell? a2 = some v2 ∧ w'.cell? a3 = some v3 ∧ w'.cell? a4 = some v4 ∧ w'.cell? a5 = some v5 ∧ w'.cell? a6 = some v6 ∧ w'.cell? a7 = some v7 ∧ w'.cell? a8 = some v8 ∧ w'.cell? a9 = some v9 ∧ Below w0.heap.size w0 w' := by
  obtain ⟨h0, h1, h2, h3, h4, h5, h6, h7, h8, h9, hB⟩ := h
  exact ⟨cell_below h0 hb, cell_below h1 hb, cell_below h2 hb, cell_below h3 hb, cell_below h4 hb, cell_below h5 hb, cell_below h6 hb, cell_below h7 hb, cell_below h8 hb, cell_below h9 hb, Below.next hB hb⟩
theorem gkeepA {w0 w : World} {a0 a1 a2 a3 a4 a5 a6 a7 a8 a9 : Addr} {v0 v1 v2 v3 v4 v5 v6 v7 v8 v9 : Value} {o : Obj} (h : w.cell? a0 = some v0 ∧ w.cell? a1 = some v1 ∧ w.cell? a2 = some v2 ∧ w.cell? a3 = some v3 ∧ w.cell? a4 = some v4 ∧ w.cell? a5 = some v5 ∧ w.cell? a6 = some v6 ∧ w.cell? a7 = some v7 ∧ w.cell? a8 = some v8 ∧ w.cell? a9 = some v9 ∧ Below w0.heap.size w0 w) : (w.alloc o).cell? a0 = some v0 ∧ (w.alloc o).cell? a1 = some v1 ∧ (w.alloc o).cell? a2 = some v2 ∧ (w.alloc o).cell? a3 = some v3 ∧ (w.alloc o).cell? a4 = some v4 ∧ (w.alloc o).cell? a5 = some v5 ∧ (w.alloc o).cell? a6 = some v6 ∧ (w.alloc o).cell? a7 = some v7 ∧ (w.alloc o).cell? a8 = some v8 ∧ (w.alloc o).cell? a9 = some v9 ∧ Below w0.heap.size w0 (w.alloc o) :=
  gkeep ((Below.refl _ _).alloc (Nat.le_refl _) _) h
theorem gkeepD {w0 w : World} {a0 a1 a2 a3 a4 a5 a6 a7 a8 a9 : Addr} {v0 v1 v2 v3 v4 v5 v6 v7 v8 v9 : Value} (h : w.cell? a0 = some v0 ∧ w.cell? a1 = some v1 ∧ w.cell? a2 = some v2 ∧ w.cell? a3 = some v3 ∧ w.cell? a4 = some v4 ∧ w.cell? a5 = some v5 ∧ w.cell? a6 = some v6 ∧ w.cell? a7 = some v7 ∧ w.cell? a8 = some v8 ∧ w.cell? a9 = some v9 ∧ Below w0.heap.size w0 w) : w.drew.cell? a0 = some v0 ∧ w.drew.cell? a1 = some v1 ∧ w.drew.cell? a2 = some v2 ∧ w.drew.cell? a3 = some v3 ∧ w.drew.cell? a4 = some v4 ∧ w.drew.cell? a5 = some v5 ∧ w.drew.cell? a6 = some v6 ∧ w.drew.cell? a7 = some v7 ∧ w.drew.cell? a8 = some v8 ∧ w.drew.cell? a9 = some v9 ∧ Below w0.heap.size w0 w.drew :=
  gkeep (Below.refl _ _).drew h
set_option maxRecDepth 100000 in
set_option maxHeartbeats 8000000 in
theorem like_none (k : Int) (c s t s0 s1 s2 s3 s4 s5 s6 : ByteArray) (bc bs bt : Nat) (w : World)
    (HR : ∀ w', Below w.heap.size w w' → Calls Tryd.prog 35 #[.int .i64 k] w' fun e w'' => e = .returned (.agg #[.string s0, .string s1, .string s2, .string s3, .string s4, .string s5, .string s6]) ∧ Below w'.heap.size w' w'')
    (HL : ∀ w', Calls Tryd.prog 41 #[.int .i64 k] w' fun e w'' => e = .returned (.bool false) ∧ Below w'.heap.size w' w'')
    (c0 : w.cell? ⟨bc, 0, none⟩ = some (.string c)) (c1 : w.cell? ⟨bs, 0, none⟩ = some (.string s)) (c2 : w.cell? ⟨bt, 0, none⟩ = some (.string t)) :
    Calls Tryd.prog 48 #[.int .i64 k, .pointer (some ⟨bc, 0, none⟩), .pointer (some ⟨bs, 0, none⟩), .pointer (some ⟨bt, 0, none⟩)] w fun e w' => e = .returned (.bool false) ∧ Below w.heap.size w w' := by
  replace HR := Lib.hid HR
  replace HL := Lib.hid HL
  go_enter Tryd.func48, Tryd.ntmps48
  go_wp2_with (go_at_call 35; refine (HR.out _ (by go_grown)).mono ?_; rintro e w1 ⟨rfl, hb⟩; refine Hid.out ?_)
  refine Lib.hid ?_
  replace c0 := cell_below c0 hb
  replace c1 := cell_below c1 hb
  replace c2 := cell_below c2 hb
  have hz0 : bc < w1.heap.size := glt c0
  have hz1 : bs < w1.heap.size := glt c1
  have hz2 : bt < w1.heap.size := glt c2
  have HB1 := Lib.hid (Below.next (Below.refl w.heap.size w) hb)
  clear hb HR
  go_wp2_with (fail)
  have AC := Lib.hid (HB1.out.alloc HB1.out.size (.cells #[.string s0, .string s1, .string s2, .string s3, .string s4, .string s5, .string s6] 49))
  clear HB1
  first | (go_region_with (first
      | (go_at_call 41; (with_reducible refine (HL.out _).mono ?_); rintro e w2 ⟨rfl, hb⟩; have x0 := cell_below (a := ⟨bc, 0, none⟩) (v := .string c) (by first | assumption | go_cell) hb; have x1 := cell_below (a := ⟨bs, 0, none⟩) (v := .string s) (by first | assumption | go_cell) hb; have x2 := cell_below (a := ⟨bt, 0, none⟩) (v := .string t) (by first | assumption | go_cell) hb; have x3 := cell_below (a := ⟨w1.heap.size, 0, none⟩) (v := .string s0) (by first | assumption | go_cell) hb; have x4 := cell_below (a := ⟨w1.heap.size, 1, none⟩) (v := .string s1) (by first | assumption | go_cell) hb; have x5 := cell_below (a := ⟨w1.heap.size, 2, none⟩) (v := .string s2) (by first | assumption | go_cell) hb; have x6 := cell_below (a := ⟨w1.heap.size, 3, none⟩) (v := .string s3) (by first | assumption | go_cell) hb; have x7 := cell_below (a := ⟨w1.heap.size, 4, none⟩) (v := .string s4) (by first | assumption | go_cell) hb; have x8 := cell_below (a := ⟨w1.heap.size, 5, none⟩) (v := .string s5) (by first | assumption | go_cell) hb; have x9 := cell_below (a := ⟨w1.heap.size, 6, none⟩) (v := .string s6) (by first | assumption | go_cell) hb; have y0 : ∀ o, (w2.alloc o).cell? ⟨bc, 0, none⟩ = some (.string c) := fun o => cell_below x0 (Below.alloc (Below.refl w2.heap.size w2) (Nat.le_refl _) o); have y1 : ∀ o, (w2.alloc o).cell? ⟨bs, 0, none⟩ = some (.string s) := fun o => cell_below x1 (Below.alloc (Below.refl w2.heap.size w2) (Nat.le_refl _) o); have y2 : ∀ o, (w2.alloc o).cell? ⟨bt, 0, none⟩ = some (.string t) := fun o => cell_below x2 (Below.alloc (Below.refl w2.heap.size w2) (Nat.le_refl _) o); have y3 : ∀ o, (w2.alloc o).cell? ⟨w1.heap.size, 0, none⟩ = some (.string s0) := fun o => cell_below x3 (Below.alloc (Below.refl w2.heap.size w2) (Nat.le_refl _) o); have y4 : ∀ o, (w2.alloc o).cell? ⟨w1.heap.size, 1, none⟩ = some (.string s1) := fun o => cell_below x4 (Below.alloc (Below.refl w2.heap.size w2) (Nat.le_refl _) o); have y5 : ∀ o, (w2.alloc o).cell? ⟨w1.heap.size, 2, none⟩ = some (.string s2) := fun o => cell_below x5 (Below.alloc (Below.refl w2.heap.size w2) (Nat.le_refl _) o); have y6 : ∀ o, (w2.alloc o).cell? ⟨w1.heap.size, 3, none⟩ = some (.string s3) := fun o => cell_below x6 (Below.alloc (Below.refl w2.heap.size w2) (Nat.le_refl _) o); have y7 : ∀ o, (w2.alloc o).cell? ⟨w1.heap.size, 4, none⟩ = some (.string s4) := fun o => cell_below x7 (Below.alloc (Below.refl w2.heap.size w2) (Nat.le_refl _) o); have y8 : ∀ o, (w2.alloc o).cell? ⟨w1.heap.size, 5, none⟩ = some (.string s5) := fun o => cell_below x8 (Below.alloc (Below.refl w2.heap.size w2) (Nat.le_refl _) o); have y9 : ∀ o, (w2.alloc o).cell? ⟨w1.heap.size, 6, none⟩ = some (.string s6) := fun o => cell_below x9 (Below.alloc (Below.refl w2.heap.size w2) (Nat.le_refl _) o); have hb0 : Below w.heap.size w _ := Below.next (show Below w.heap.size w _ from (by first | with_reducible exact AC.out | with_reducible exact AC.out.drew | exact AC.out.alloc AC.out.size _ | exact (AC.out.alloc AC.out.size _).drew)) hb; have AC := Lib.hid hb0; clear hb0 hb))) | fail
  all_goals
    go_wp2_with (fail)
    go_ret
    exact ⟨rfl, by first | with_reducible exact AC.out | exact AC.out.alloc AC.out.size _⟩
set_option maxRecDepth 100000 in
set_option maxHeartbeats 8000000 in
theorem like_color (k : Int) (c s t s0 s1 s2 s3 s4 s5 s6 : ByteArray) (bc bs bt : Nat) (w : World)
    (HR : ∀ w', Below w.heap.size w w' → Calls Tryd.prog 35 #[.int .i64 k] w' fun e w'' => e = .returned (.agg #[.string s0, .string s1, .string s2, .string s3, .string s4, .string s5, .string s6]) ∧ Below w'.heap.size w' w'')
    (HL : ∀ w', Calls Tryd.prog 41 #[.int .i64 k] w' fun e w'' => e = .returned (.bool true) ∧ Below w'.heap.size w' w'')
    (HFC : ∀ (w' : World) (n : Nat), w'.heap.size = n → Calls Tryd.prog 45 #[.string c, .slice (some ⟨n, 0, none⟩) 1 1] (w'.alloc (.cells #[.string s1] 9)) fun e w'' => e = .returned (.bool false) ∧ w'.alloc (.cells #[.string s1] 9) = w'')
    (c0 : w.cell? ⟨bc, 0, none⟩ = some (.string c)) (c1 : w.cell? ⟨bs, 0, none⟩ = some (.string s)) (c2 : w.cell? ⟨bt, 0, none⟩ = some (.string t)) :
    Calls Tryd.prog 48 #[.int .i64 k, .pointer (some ⟨bc, 0, none⟩), .pointer (some ⟨bs, 0, none⟩), .pointer (some ⟨bt, 0, none⟩)] w fun e w' => e = .returned (.bool false) ∧ Below w.heap.size w w' := by
  replace HR := Lib.hid HR
  replace HL := Lib.hid HL
  replace HFC := Lib.hid HFC
  go_enter Tryd.func48, Tryd.ntmps48
  go_wp2_with (go_at_call 35; refine (HR.out _ (by go_grown)).mono ?_; rintro e w1 ⟨rfl, hb⟩; refine Hid.out ?_)
  refine Lib.hid ?_
  replace c0 := cell_below c0 hb
  replace c1 := cell_below c1 hb
  replace c2 := cell_below c2 hb
  have hz0 : bc < w1.heap.size := glt c0
  have hz1 : bs < w1.heap.size := glt c1
  have hz2 : bt < w1.heap.size := glt c2
  have HB1 := Lib.hid (Below.next (Below.refl w.heap.size w) hb)
  clear hb HR
  go_wp2_with (fail)
  have AC := Lib.hid (HB1.out.alloc HB1.out.size (.cells #[.string s0, .string s1, .string s2, .string s3, .string s4, .string s5, .string s6] 49))
  clear HB1
  first | (go_region_with (first
      | (go_at_call 41; (with_reducible refine (HL.out _).mono ?_); rintro e w2 ⟨rfl, hb⟩; have x0 := cell_below (a := ⟨bc, 0, none⟩) (v := .string c) (by first | assumption | go_cell) hb; have x1 := cell_below (a := ⟨bs, 0, none⟩) (v := .string s) (by first | assumption | go_cell) hb; have x2 := cell_below (a := ⟨bt, 0, none⟩) (v := .string t) (by first | assumption | go_cell) hb; have x3 := cell_below (a := ⟨w1.heap.size, 0, none⟩) (v := .string s0) (by first | assumption | go_cell) hb; have x4 := cell_below (a := ⟨w1.heap.size, 1, none⟩) (v := .string s1) (by first | assumption | go_cell) hb; have x5 := cell_below (a := ⟨w1.heap.size, 2, none⟩) (v := .string s2) (by first | assumption | go_cell) hb; have x6 := cell_below (a := ⟨w1.heap.size, 3, none⟩) (v := .string s3) (by first | assumption | go_cell) hb; have x7 := cell_below (a := ⟨w1.heap.size, 4, none⟩) (v := .string s4) (by first | assumption | go_cell) hb; have x8 := cell_below (a := ⟨w1.heap.size, 5, none⟩) (v := .string s5) (by first | assumption | go_cell) hb; have x9 := cell_below (a := ⟨w1.heap.size, 6, none⟩) (v := .string s6) (by first | assumption | go_cell) hb; have y0 : ∀ o, (w2.alloc o).cell? ⟨bc, 0, none⟩ = some (.string c) := fun o => cell_below x0 (Below.alloc (Below.refl w2.heap.size w2) (Nat.le_refl _) o); have y1 : ∀ o, (w2.alloc o).cell? ⟨bs, 0, none⟩ = some (.string s) := fun o => cell_below x1 (Below.alloc (Below.refl w2.heap.size w2) (Nat.le_refl _) o); have y2 : ∀ o, (w2.alloc o).cell? ⟨bt, 0, none⟩ = some (.string t) := fun o => cell_below x2 (Below.alloc (Below.refl w2.heap.size w2) (Nat.le_refl _) o); have y3 : ∀ o, (w2.alloc o).cell? ⟨w1.heap.size, 0, none⟩ = some (.string s0) := fun o => cell_below x3 (Below.alloc (Below.refl w2.heap.size w2) (Nat.le_refl _) o); have y4 : ∀ o, (w2.alloc o).cell? ⟨w1.heap.size, 1, none⟩ = some (.string s1) := fun o => cell_below x4 (Below.alloc (Below.refl w2.heap.size w2) (Nat.le_refl _) o); have y5 : ∀ o, (w2.alloc o).cell? ⟨w1.heap.size, 2, none⟩ = some (.string s2) := fun o => cell_below x5 (Below.alloc (Below.refl w2.heap.size w2) (Nat.le_refl _) o); have y6 : ∀ o, (w2.alloc o).cell? ⟨w1.heap.size, 3, none⟩ = some (.string s3) := fun o => cell_below x6 (Below.alloc (Below.refl w2.heap.size w2) (Nat.le_refl _) o); have y7 : ∀ o, (w2.alloc o).cell? ⟨w1.heap.size, 4, none⟩ = some (.string s4) := fun o => cell_below x7 (Below.alloc (Below.refl w2.heap.size w2) (Nat.le_refl _) o); have y8 : ∀ o, (w2.alloc o).cell? ⟨w1.heap.size, 5, none⟩ = some (.string s5) := fun o => cell_below x8 (Below.alloc (Below.refl w2.heap.size w2) (Nat.le_refl _) o); have y9 : ∀ o, (w2.alloc o).cell? ⟨w1.heap.size, 6, none⟩ = some (.string s6) := fun o => cell_below x9 (Below.alloc (Below.refl w2.heap.size w2) (Nat.le_refl _) o); have hb0 : Below w.heap.size w _ := Below.next (show Below w.heap.size w _ from (by first | with_reducible exact AC.out | with_reducible exact AC.out.drew | exact AC.out.alloc AC.out.size _ | exact (AC.out.alloc AC.out.size _).drew)) hb; have AC := Lib.hid hb0; clear hb0 hb)
      | (go_at_call 45; (with_reducible refine (HFC.out _ _ rfl).mono ?_); rintro e w3 ⟨rfl, rfl⟩))) | fail
  all_goals
    go_wp2_with (fail)
    go_ret
    exact ⟨rfl, by first | with_reducible exact AC.out | exact AC.out.alloc AC.out.size _⟩
end Go.Proofs.YthheacebafleeaaDoor
