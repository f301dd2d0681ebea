/- The program's sum of dark minutes. -/
import Derived.Test.YtagebpmciimcgabDoorDrkC
namespace Go.Proofs.YtagebpmciimcgabDoor
open Go.ChangeShapes Go.WideShapes Go.ChangeAt Go.RowKit Pm

theorem cell_off {W : World} {a : Addr} {v x : Value} {b j : Nat} (n : a.block ≠ b) (h : W.cell? a = some v) : (W.setCell ⟨b, j, none⟩ x).cell? a = some v := by
  rw [World.cell?_setCell_other _ _ _ _ (by intro e; exact n (by rw [← e]))]; exact h
theorem cell_on {W : World} {a : Addr} {v x : Value} (h : W.cell? a = some v) : (W.setCell a x).cell? a = some x := World.cell?_setCell_same _ _ _ h
theorem frz_set {W : World} {a b : Addr} {x : Value} (h : W.frozen? a = false) : (W.setCell b x).frozen? a = false := by simp [h]

/-- The sum lies in the first new block, the code in the second, the slice of pointers in the third. -/
def SumInv (w : World) (f : Nat → Int) (k : Nat) (W : World) : Prop :=
  W.cell? ⟨w.heap.size, 0, none⟩ = some (.int .i64 (sumTo f k)) ∧ W.frozen? ⟨w.heap.size, 0, none⟩ = false ∧ W.cell? ⟨w.heap.size + 1, 0, none⟩ = some (.int .i64 0) ∧ W.frozen? ⟨w.heap.size + 1, 0, none⟩ = false ∧
  W.cell? ⟨w.heap.size + 1 + 1, 0, none⟩ = some (.pointer (some ⟨w.heap.size, 0, none⟩)) ∧ Below w.heap.size w W
theorem SumInv.below {w W W' : World} {f : Nat → Int} {k : Nat} (h : SumInv w f k W) (hb : Below W.heap.size W W') : SumInv w f k W' := by
  obtain ⟨h1, h2, h3, h4, h5, h6⟩ := h
  exact ⟨cell_below h1 hb, frozen_kept hb h2 (World.block_lt_of_cell? _ _ h1), cell_below h3 hb, frozen_kept hb h4 (World.block_lt_of_cell? _ _ h3), cell_below h5 hb, Below.next h6 hb⟩
theorem SumInv.put {w W : World} {f : Nat → Int} {k : Nat} (h : SumInv w f k W) : SumInv w f (k + 1) (W.setCell ⟨w.heap.size, 0, none⟩ (.int .i64 (sumTo f k + f k))) := by
  obtain ⟨h1, h2, h3, h4, h5, h6⟩ := h
  exact ⟨by rw [sum_next]; exact cell_on h1, frz_set h2, cell_off (by simp) h3, frz_set h4, cell_off (by simp; omega) h5, h6.setCell (Nat.le_refl _) _⟩

theorem dsum_each (lat a : Int) (c : Nat) (f : Nat → Int) (w W : World) (hS : SinesAt w) (hI : SumInv w f 0 W) (hf : 0 ≤ a → ∀ i : Nat, DarkIs lat (a + i) (f i)) (hfb : ∀ i, 0 ≤ f i ∧ f i ≤ 1440) (a0 : -9223372036854775808 ≤ a) (a1 : a ≤ 9223372036854775807) (c0 : 1 ≤ c) (c1 : c ≤ 400) :
    Calls Tryd.prog 58 #[.int .i64 lat, .int .i64 a, .int .i64 c, .func (.func 59) #[] #[.pointer (some ⟨w.heap.size, 0, none⟩)]] W
      (fun e w' => (seasonB lat a c = true ∧ EachOk (SumInv w f) c e w') ∨ (seasonB lat a c = false ∧ EachBad (SumInv w f) e w')) :=
  each_days lat a c 59 #[.pointer (some ⟨w.heap.size, 0, none⟩)] f W (SumInv w f) hI
    (enters_of Tryd.func59 (by kernel_rfl) rfl)
    (fun _ _ _ h hb => h.below hb) (fun _ _ h => hS.below h.2.2.2.2.2)
    (fun k W h _ hk => by
      have hs := sum_bd hfb k
      have hk' := hfb k
      refine (sumclos (a + k) (f k) (sumTo f k) w.heap.size W h.1 h.2.1 hs.1 (by omega) hk'.1 hk'.2).mono ?_
      rintro e W' ⟨he, hw⟩
      exact ⟨he, by rw [hw]; exact h.put⟩)
    hf a0 a1 c0 c1

set_option maxHeartbeats 1000000 in
theorem darksum_ok (lat a c s : Int) (f : Nat → Int) (k : Nat) (w : World) (hs : sumTo f k = s)
    (HE : ∀ W, SumInv w f 0 W → Calls Tryd.prog 58 #[.int .i64 lat, .int .i64 a, .int .i64 c, .func (.func 59) #[] #[.pointer (some ⟨w.heap.size, 0, none⟩)]] W (EachOk (SumInv w f) k)) :
    Calls Tryd.prog 28 #[.int .i64 lat, .int .i64 a, .int .i64 c] w (Ret2 s 0 w) := by
  have HE := Lib.hid HE
  have HS := Lib.hid hs
  clear hs
  go_enter_defers Tryd.func28, Tryd.ntmps28
  go_wp2_with (first
    | (go_at_call 58; refine (HE.out _ ⟨by rw [sum_zero]; go_cell, by go_simp, by go_cell, by go_simp, by go_cell, by go_grown⟩).mono ?_; rintro e W1 ⟨rfl, hi⟩; obtain ⟨h1, h2, h3, h4, h5, h6⟩ := hi; have HB6 := Lib.hid h6; have q1 := World.block_lt_of_cell? _ _ h1; have q2 := World.block_lt_of_cell? _ _ h3; have q3 := World.block_lt_of_cell? _ _ h5; rw [HS.out] at h1; clear h6))
  refine leaves_cons (f := 57) (args := #[.pointer (some ⟨w.heap.size + 1, 0, none⟩), .slice (some ⟨w.heap.size + 1 + 1, 0, none⟩) 1 1]) (by simp) (by simp [go_sem]) ?_
  refine (clear_ok _ _ 1 .returning _ ?_).mono ?_
  · first | go_cell | (simp [*])
  rintro e u' w'' ⟨rfl, rfl, rfl⟩
  refine ⟨.tuple #[.int .i64 s, .int .i64 0], by simp [results, Tryd.results28, go_sem, *], rfl, ?_⟩
  exact ((HB6.out.setCell (by simp) _).setCell (Nat.le_refl _) _).setCell (by simp) _

set_option maxHeartbeats 1000000 in
theorem darksum_bad (lat a c : Int) (f : Nat → Int) (w : World)
    (HE : ∀ W, SumInv w f 0 W → Calls Tryd.prog 58 #[.int .i64 lat, .int .i64 a, .int .i64 c, .func (.func 59) #[] #[.pointer (some ⟨w.heap.size, 0, none⟩)]] W (EachBad (SumInv w f))) :
    Calls Tryd.prog 28 #[.int .i64 lat, .int .i64 a, .int .i64 c] w (Ret2 0 2 w) := by
  have HE := Lib.hid HE
  go_enter_defers Tryd.func28, Tryd.ntmps28
  go_wp2_with (first
    | (go_at_call 58; refine (HE.out _ ⟨by rw [sum_zero]; go_cell, by go_simp, by go_cell, by go_simp, by go_cell, by go_grown⟩).mono ?_; rintro e W1 ⟨k, rfl, hi⟩; obtain ⟨h1, h2, h3, h4, h5, h6⟩ := hi; have HB6 := Lib.hid h6; have q1 := World.block_lt_of_cell? _ _ h1; have q2 := World.block_lt_of_cell? _ _ h3; have q3 := World.block_lt_of_cell? _ _ h5; generalize sumTo f k = s at h1; clear h6))
  refine leaves_cons (f := 57) (args := #[.pointer (some ⟨w.heap.size + 1, 0, none⟩), .slice (some ⟨w.heap.size + 1 + 1, 0, none⟩) 1 1]) (by simp) (by simp [go_sem]) ?_
  refine (clear_bad1 w.heap.size _ _ .returning s 2 _ ?_ (by rfl) ?_ ?_ ?_).mono ?_
  · first | go_cell | (simp [*])
  · first | go_cell | (simp [*])
  · first | go_simp | (simp [*])
  · first | go_cell | (simp [*])
  rintro e u' w'' ⟨rfl, rfl, rfl⟩
  have x0 := cell_on (x := .int .i64 0) (cell_off (b := w.heap.size + 1) (j := 0) (x := .int .i64 2) (by simp) (cell_on (x := .int .i64 s) (cell_off (b := w.heap.size + 1) (j := 0) (x := .int .i64 2) (by simp) h1)))
  have x1 := cell_off (b := w.heap.size) (j := 0) (x := .int .i64 0) (by simp) (cell_on (x := .int .i64 2) (cell_off (b := w.heap.size) (j := 0) (x := .int .i64 s) (by simp) (cell_on (x := .int .i64 2) h3)))
  refine ⟨.tuple #[.int .i64 0, .int .i64 2], by simp [results, Tryd.results28, go_sem, x0, x1], rfl, ?_⟩
  exact (((HB6.out.setCell (by simp) _).setCell (Nat.le_refl _) _).setCell (by simp) _).setCell (Nat.le_refl _) _

/-- The sum over a season, and the code. -/
def sumV (lat a c : Int) (f : Nat → Int) : Int × Int := if seasonB lat a c = true then (sumTo f c.toNat, 0) else (0, 2)
theorem impl_sum (lat a c : Int) (f : Nat → Int) (w : World) (hS : SinesAt w) (hf : 0 ≤ a → ∀ i : Nat, DarkIs lat (a + i) (f i)) (hfb : ∀ i, 0 ≤ f i ∧ f i ≤ 1440) (a0 : -9223372036854775808 ≤ a) (a1 : a ≤ 9223372036854775807) :
    Calls Tryd.prog 28 #[.int .i64 lat, .int .i64 a, .int .i64 c] w (Ret2 (sumV lat a c f).1 (sumV lat a c f).2 w) := by
  cases hc : inB 1 400 [c]
  · have hs : seasonB lat a c = false := by unfold seasonB; rw [hc]; simp
    rw [show sumV lat a c f = (0, 2) by unfold sumV; rw [hs]; rfl]
    exact darksum_bad lat a c f w (fun W hI => each_count lat a c _ _ W (SumInv w f) hI (fun _ _ _ h hb => h.below hb) hc)
  · have hcb : 1 ≤ c ∧ c ≤ 400 := by simpa [inB] using hc
    obtain ⟨n, rfl⟩ := Int.eq_ofNat_of_zero_le (show 0 ≤ c by omega)
    cases hs : seasonB lat a n
    · rw [show sumV lat a n f = (0, 2) by unfold sumV; rw [hs]; rfl]
      refine darksum_bad lat a n f w (fun W hI => (dsum_each lat a n f w W hS hI hf hfb a0 a1 (by omega) (by omega)).mono ?_)
      rintro e w' (⟨h, _⟩ | ⟨_, h⟩)
      · rw [hs] at h; cases h
      · exact h
    · rw [show sumV lat a n f = (sumTo f n, 0) by unfold sumV; rw [hs]; rfl]
      refine darksum_ok lat a n _ f n w rfl (fun W hI => (dsum_each lat a n f w W hS hI hf hfb a0 a1 (by omega) (by omega)).mono ?_)
      rintro e w' (⟨_, h⟩ | ⟨h, _⟩)
      · exact h
      · rw [hs] at h; cases h
end Go.Proofs.YtagebpmciimcgabDoor
