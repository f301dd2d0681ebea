/- The program's day with the most dark minutes. -/
import Derived.Test.YtagebpmciimcgabDoorDrkS
namespace Go.Proofs.YtagebpmciimcgabDoor
open Go.ChangeShapes Go.WideShapes Go.ChangeAt Go.RowKit Pm

/-- The day and the most lie in the first two new blocks, the code in the third, the slice of pointers in the fourth. -/
def LongAt (w : World) (d m : Int) (W : World) : Prop :=
  W.cell? ⟨w.heap.size, 0, none⟩ = some (.int .i64 d) ∧ W.frozen? ⟨w.heap.size, 0, none⟩ = false ∧ W.cell? ⟨w.heap.size + 1, 0, none⟩ = some (.int .i64 m) ∧ W.frozen? ⟨w.heap.size + 1, 0, none⟩ = false ∧
  W.cell? ⟨w.heap.size + 1 + 1, 0, none⟩ = some (.int .i64 0) ∧ W.frozen? ⟨w.heap.size + 1 + 1, 0, none⟩ = false ∧
  W.cell? ⟨w.heap.size + 1 + 1 + 1, 0, none⟩ = some (.pointer (some ⟨w.heap.size, 0, none⟩)) ∧ W.cell? ⟨w.heap.size + 1 + 1 + 1, 1, none⟩ = some (.pointer (some ⟨w.heap.size + 1, 0, none⟩)) ∧ Below w.heap.size w W
theorem LongAt.below {w W W' : World} {d m : Int} (h : LongAt w d m W) (hb : Below W.heap.size W W') : LongAt w d m W' := by
  obtain ⟨h1, h2, h3, h4, h5, h6, h7, h8, h9⟩ := h
  exact ⟨cell_below h1 hb, frozen_kept hb h2 (World.block_lt_of_cell? _ _ h1), cell_below h3 hb, frozen_kept hb h4 (World.block_lt_of_cell? _ _ h3), cell_below h5 hb, frozen_kept hb h6 (World.block_lt_of_cell? _ _ h5), cell_below h7 hb, cell_below h8 hb, Below.next h9 hb⟩
theorem LongAt.put {w W : World} {d m : Int} (x y : Int) (h : LongAt w d m W) : LongAt w x y ((W.setCell ⟨w.heap.size, 0, none⟩ (.int .i64 x)).setCell ⟨w.heap.size + 1, 0, none⟩ (.int .i64 y)) := by
  obtain ⟨h1, h2, h3, h4, h5, h6, h7, h8, h9⟩ := h
  exact ⟨cell_off (by first | (simp; done) | (simp; omega)) (cell_on h1), frz_set (frz_set h2), cell_on (cell_off (by first | (simp; done) | (simp; omega)) h3), frz_set (frz_set h4), cell_off (by first | (simp; done) | (simp; omega)) (cell_off (by first | (simp; done) | (simp; omega)) h5), frz_set (frz_set h6), cell_off (by first | (simp; done) | (simp; omega)) (cell_off (by first | (simp; done) | (simp; omega)) h7), cell_off (by first | (simp; done) | (simp; omega)) (cell_off (by first | (simp; done) | (simp; omega)) h8),
    (h9.setCell (Nat.le_refl _) _).setCell (by simp) _⟩
def LongInv (w : World) (f : Nat → Int) (a : Int) (k : Nat) (W : World) : Prop := ∃ d m, LongAt w d m W ∧ ((k = 0 ∧ m = -1) ∨ BestIs f a k d m)

theorem dlong_each (lat a : Int) (c : Nat) (f : Nat → Int) (w W : World) (hS : SinesAt w) (hI : LongInv w f a 0 W) (hf : 0 ≤ a → ∀ i : Nat, DarkIs lat (a + i) (f i)) (hfb : ∀ i, 0 ≤ f i ∧ f i ≤ 1440) (a0 : -9223372036854775808 ≤ a) (a1 : a ≤ 9223372036854775807) (c0 : 1 ≤ c) (c1 : c ≤ 400) :
    Calls Tryd.prog 58 #[.int .i64 lat, .int .i64 a, .int .i64 c, .func (.func 60) #[] #[.pointer (some ⟨w.heap.size + 1, 0, none⟩), .pointer (some ⟨w.heap.size, 0, none⟩)]] W
      (fun e w' => (seasonB lat a c = true ∧ EachOk (LongInv w f a) c e w') ∨ (seasonB lat a c = false ∧ EachBad (LongInv w f a) e w')) :=
  each_days lat a c 60 #[.pointer (some ⟨w.heap.size + 1, 0, none⟩), .pointer (some ⟨w.heap.size, 0, none⟩)] f W (LongInv w f a) hI
    (enters_of Tryd.func60 (by kernel_rfl) rfl)
    (fun _ _ _ h hb => by obtain ⟨d, m, h1, h2⟩ := h; exact ⟨d, m, h1.below hb, h2⟩) (fun _ _ h => by obtain ⟨d, m, h1, h2⟩ := h; exact hS.below h1.2.2.2.2.2.2.2.2)
    (fun k W h _ hk => by
      obtain ⟨d, m, h1, h2⟩ := h
      have hk' := hfb k
      by_cases cc : m < f k
      · refine (longclos_yes (a + k) (f k) m d w.heap.size (w.heap.size + 1) W h1.1 h1.2.2.1 h1.2.1 h1.2.2.2.1 (by omega) cc).mono ?_
        rintro e W' ⟨he, hw⟩
        refine ⟨he, a + k, f k, by rw [hw]; exact h1.put _ _, .inr ?_⟩
        rcases h2 with ⟨e0, _⟩ | h2
        · subst e0; exact BestIs.first
        · exact h2.more cc
      · refine (longclos_no (a + k) (f k) m d w.heap.size (w.heap.size + 1) W h1.1 h1.2.2.1 (by omega)).mono ?_
        rintro e W' ⟨he, hw⟩
        refine ⟨he, d, m, by rw [hw]; exact h1, .inr ?_⟩
        rcases h2 with ⟨e0, e1⟩ | h2
        · subst e0; omega
        · exact h2.same cc)
    hf a0 a1 c0 c1

/-- The first day with the most is returned. -/
def LongRet (f : Nat → Int) (a : Int) (k : Nat) (w : World) (e : Ending) (w' : World) : Prop := ∃ d m, BestIs f a k d m ∧ e = .returned (.tuple #[.int .i64 d, .int .i64 m, .int .i64 0]) ∧ Below w.heap.size w w'

/-- The world at the door: the code has been put, the results have been put where they were. -/
theorem long_door {w W : World} {d m : Int} (r : Int) (h : LongAt w d m W) :
    (((((W.setCell ⟨w.heap.size + 1 + 1, 0, none⟩ (.int .i64 r)).setCell ⟨w.heap.size, 0, none⟩ (.int .i64 d)).setCell ⟨w.heap.size + 1, 0, none⟩ (.int .i64 m)).setCell ⟨w.heap.size + 1 + 1, 0, none⟩ (.int .i64 r))).cell? ⟨w.heap.size, 0, none⟩ = some (.int .i64 d) ∧
    (((((W.setCell ⟨w.heap.size + 1 + 1, 0, none⟩ (.int .i64 r)).setCell ⟨w.heap.size, 0, none⟩ (.int .i64 d)).setCell ⟨w.heap.size + 1, 0, none⟩ (.int .i64 m)).setCell ⟨w.heap.size + 1 + 1, 0, none⟩ (.int .i64 r))).cell? ⟨w.heap.size + 1, 0, none⟩ = some (.int .i64 m) ∧
    (((((W.setCell ⟨w.heap.size + 1 + 1, 0, none⟩ (.int .i64 r)).setCell ⟨w.heap.size, 0, none⟩ (.int .i64 d)).setCell ⟨w.heap.size + 1, 0, none⟩ (.int .i64 m)).setCell ⟨w.heap.size + 1 + 1, 0, none⟩ (.int .i64 r))).cell? ⟨w.heap.size + 1 + 1, 0, none⟩ = some (.int .i64 r) ∧
    (((((W.setCell ⟨w.heap.size + 1 + 1, 0, none⟩ (.int .i64 r)).setCell ⟨w.heap.size, 0, none⟩ (.int .i64 d)).setCell ⟨w.heap.size + 1, 0, none⟩ (.int .i64 m)).setCell ⟨w.heap.size + 1 + 1, 0, none⟩ (.int .i64 r))).cell? ⟨w.heap.size + 1 + 1 + 1, 0, none⟩ = some (.pointer (some ⟨w.heap.size, 0, none⟩)) ∧
    (((((W.setCell ⟨w.heap.size + 1 + 1, 0, none⟩ (.int .i64 r)).setCell ⟨w.heap.size, 0, none⟩ (.int .i64 d)).setCell ⟨w.heap.size + 1, 0, none⟩ (.int .i64 m)).setCell ⟨w.heap.size + 1 + 1, 0, none⟩ (.int .i64 r))).cell? ⟨w.heap.size + 1 + 1 + 1, 1, none⟩ = some (.pointer (some ⟨w.heap.size + 1, 0, none⟩)) ∧
    (((((W.setCell ⟨w.heap.size + 1 + 1, 0, none⟩ (.int .i64 r)).setCell ⟨w.heap.size, 0, none⟩ (.int .i64 d)).setCell ⟨w.heap.size + 1, 0, none⟩ (.int .i64 m)).setCell ⟨w.heap.size + 1 + 1, 0, none⟩ (.int .i64 r))).frozen? ⟨w.heap.size, 0, none⟩ = false ∧
    (((((W.setCell ⟨w.heap.size + 1 + 1, 0, none⟩ (.int .i64 r)).setCell ⟨w.heap.size, 0, none⟩ (.int .i64 d)).setCell ⟨w.heap.size + 1, 0, none⟩ (.int .i64 m)).setCell ⟨w.heap.size + 1 + 1, 0, none⟩ (.int .i64 r))).frozen? ⟨w.heap.size + 1, 0, none⟩ = false ∧
    Below w.heap.size w ((((W.setCell ⟨w.heap.size + 1 + 1, 0, none⟩ (.int .i64 r)).setCell ⟨w.heap.size, 0, none⟩ (.int .i64 d)).setCell ⟨w.heap.size + 1, 0, none⟩ (.int .i64 m)).setCell ⟨w.heap.size + 1 + 1, 0, none⟩ (.int .i64 r)) := by
  obtain ⟨h1, h2, h3, h4, h5, h6, h7, h8, h9⟩ := h
  exact ⟨cell_off (by first | (simp; done) | (simp; omega)) (cell_off (by first | (simp; done) | (simp; omega)) (cell_on (cell_off (by first | (simp; done) | (simp; omega)) h1))), cell_off (by first | (simp; done) | (simp; omega)) (cell_on (cell_off (by first | (simp; done) | (simp; omega)) (cell_off (by first | (simp; done) | (simp; omega)) h3))), cell_on (cell_off (by first | (simp; done) | (simp; omega)) (cell_off (by first | (simp; done) | (simp; omega)) (cell_on h5))),
    cell_off (by first | (simp; done) | (simp; omega)) (cell_off (by first | (simp; done) | (simp; omega)) (cell_off (by first | (simp; done) | (simp; omega)) (cell_off (by first | (simp; done) | (simp; omega)) h7))), cell_off (by first | (simp; done) | (simp; omega)) (cell_off (by first | (simp; done) | (simp; omega)) (cell_off (by first | (simp; done) | (simp; omega)) (cell_off (by first | (simp; done) | (simp; omega)) h8))), frz_set (frz_set (frz_set (frz_set h2))), frz_set (frz_set (frz_set (frz_set h4))),
    (((h9.setCell (by first | (simp; done) | (simp; omega)) _).setCell (by first | (simp; done) | (simp; omega)) _).setCell (by first | (simp; done) | (simp; omega)) _).setCell (by first | (simp; done) | (simp; omega)) _⟩
theorem long_start (w W : World) (h : LongAt w 0 (-1) W) (f : Nat → Int) (a : Int) : LongInv w f a 0 W := ⟨0, -1, h, .inl ⟨rfl, rfl⟩⟩

set_option maxHeartbeats 1000000 in
theorem darklong_ok (lat a c : Int) (f : Nat → Int) (k : Nat) (w : World) (hk : 1 ≤ k)
    (HE : ∀ W, LongInv w f a 0 W → Calls Tryd.prog 58 #[.int .i64 lat, .int .i64 a, .int .i64 c, .func (.func 60) #[] #[.pointer (some ⟨w.heap.size + 1, 0, none⟩), .pointer (some ⟨w.heap.size, 0, none⟩)]] W (EachOk (LongInv w f a) k)) :
    Calls Tryd.prog 29 #[.int .i64 lat, .int .i64 a, .int .i64 c] w (LongRet f a k w) := by
  have HE := Lib.hid HE
  go_enter_defers Tryd.func29, Tryd.ntmps29
  go_wp2_with (first
    | (go_at_call 58; refine (HE.out _ (long_start w _ ⟨by go_cell, by go_simp, by go_cell, by go_simp, by go_cell, by go_simp, by go_cell, by go_cell, by go_grown⟩ f a)).mono ?_; rintro e W1 ⟨rfl, d, m, hi, hbest⟩; obtain ⟨h1, h2, h3, h4, h5, h6, h7, h8, h9⟩ := hi; have HAT := Lib.hid (show LongAt w d m W1 from ⟨h1, h2, h3, h4, h5, h6, h7, h8, h9⟩); have HBE := Lib.hid hbest; have q1 := World.block_lt_of_cell? _ _ h1; have q2 := World.block_lt_of_cell? _ _ h3; have q3 := World.block_lt_of_cell? _ _ h5; have q4 := World.block_lt_of_cell? _ _ h7; clear h9 hbest))
  have HBF := Lib.hid (show BestIs f a k d m by
    rcases HBE.out with ⟨e, _⟩ | h
    · omega
    · exact h)
  refine leaves_cons (f := 57) (args := #[.pointer (some ⟨w.heap.size + 1 + 1, 0, none⟩), .slice (some ⟨w.heap.size + 1 + 1 + 1, 0, none⟩) 2 2]) (by simp) (by simp [go_sem]) ?_
  obtain ⟨x0, x1, x2, _, _, _, _, xb⟩ := long_door 0 HAT.out
  refine (clear_ok _ _ 2 .returning _ x2).mono ?_
  rintro e u' w'' ⟨rfl, rfl, rfl⟩
  exact ⟨.tuple #[.int .i64 d, .int .i64 m, .int .i64 0], by simp [results, Tryd.results29, go_sem, x0, x1, x2], d, m, HBF.out, rfl, xb⟩

set_option maxHeartbeats 1000000 in
theorem darklong_bad (lat a c : Int) (f : Nat → Int) (w : World)
    (HE : ∀ W, LongInv w f a 0 W → Calls Tryd.prog 58 #[.int .i64 lat, .int .i64 a, .int .i64 c, .func (.func 60) #[] #[.pointer (some ⟨w.heap.size + 1, 0, none⟩), .pointer (some ⟨w.heap.size, 0, none⟩)]] W (EachBad (LongInv w f a))) :
    Calls Tryd.prog 29 #[.int .i64 lat, .int .i64 a, .int .i64 c] w (Ret3 0 0 2 w) := by
  have HE := Lib.hid HE
  go_enter_defers Tryd.func29, Tryd.ntmps29
  go_wp2_with (first
    | (go_at_call 58; refine (HE.out _ (long_start w _ ⟨by go_cell, by go_simp, by go_cell, by go_simp, by go_cell, by go_simp, by go_cell, by go_cell, by go_grown⟩ f a)).mono ?_; rintro e W1 ⟨k, rfl, d, m, hi, hbest⟩; obtain ⟨h1, h2, h3, h4, h5, h6, h7, h8, h9⟩ := hi; have HAT := Lib.hid (show LongAt w d m W1 from ⟨h1, h2, h3, h4, h5, h6, h7, h8, h9⟩); have q1 := World.block_lt_of_cell? _ _ h1; have q2 := World.block_lt_of_cell? _ _ h3; have q3 := World.block_lt_of_cell? _ _ h5; have q4 := World.block_lt_of_cell? _ _ h7; clear h9 hbest))
  refine leaves_cons (f := 57) (args := #[.pointer (some ⟨w.heap.size + 1 + 1, 0, none⟩), .slice (some ⟨w.heap.size + 1 + 1 + 1, 0, none⟩) 2 2]) (by simp) (by simp [go_sem]) ?_
  obtain ⟨x0, x1, x2, x3, x4, x5, x6, xb⟩ := long_door 2 HAT.out
  refine (clear_bad2 w.heap.size (w.heap.size + 1) _ _ .returning d m 2 _ x2 (by rfl) x0 x5 x1 x6 (by omega) (by omega) (by omega) x3 x4).mono ?_
  rintro e u' w'' ⟨rfl, rfl, rfl⟩
  have y0 := cell_off (b := w.heap.size + 1) (j := 0) (x := .int .i64 0) (by first | (simp; done) | (simp; omega)) (cell_on (x := .int .i64 0) x0)
  have y1 := cell_on (x := .int .i64 0) (cell_off (b := w.heap.size) (j := 0) (x := .int .i64 0) (by first | (simp; done) | (simp; omega)) x1)
  have y2 := cell_off (b := w.heap.size + 1) (j := 0) (x := .int .i64 0) (by first | (simp; done) | (simp; omega)) (cell_off (b := w.heap.size) (j := 0) (x := .int .i64 0) (by first | (simp; done) | (simp; omega)) x2)
  exact ⟨.tuple #[.int .i64 0, .int .i64 0, .int .i64 2], by simp [results, Tryd.results29, go_sem, y0, y1, y2], rfl, (xb.setCell (Nat.le_refl _) _).setCell (by first | (simp; done) | (simp; omega)) _⟩

theorem impl_long_no (lat a c : Int) (f : Nat → Int) (w : World) (hS : SinesAt w) (hf : 0 ≤ a → ∀ i : Nat, DarkIs lat (a + i) (f i)) (hfb : ∀ i, 0 ≤ f i ∧ f i ≤ 1440) (a0 : -9223372036854775808 ≤ a) (a1 : a ≤ 9223372036854775807) (hs : seasonB lat a c = false) :
    Calls Tryd.prog 29 #[.int .i64 lat, .int .i64 a, .int .i64 c] w (Ret3 0 0 2 w) := by
  cases hc : inB 1 400 [c]
  · exact darklong_bad lat a c f w (fun W hI => each_count lat a c _ _ W (LongInv w f a) hI (fun _ _ _ h hb => by obtain ⟨d, m, h1, h2⟩ := h; exact ⟨d, m, h1.below hb, h2⟩) hc)
  · have hcb : 1 ≤ c ∧ c ≤ 400 := by simpa [inB] using hc
    obtain ⟨n, rfl⟩ := Int.eq_ofNat_of_zero_le (show 0 ≤ c by omega)
    refine darklong_bad lat a n f w (fun W hI => (dlong_each lat a n f w W hS hI hf hfb a0 a1 (by omega) (by omega)).mono ?_)
    rintro e w' (⟨h, _⟩ | ⟨_, h⟩)
    · rw [hs] at h; cases h
    · exact h
theorem impl_long_yes (lat a : Int) (n : Nat) (f : Nat → Int) (w : World) (hS : SinesAt w) (hf : 0 ≤ a → ∀ i : Nat, DarkIs lat (a + i) (f i)) (hfb : ∀ i, 0 ≤ f i ∧ f i ≤ 1440) (a0 : -9223372036854775808 ≤ a) (a1 : a ≤ 9223372036854775807) (hs : seasonB lat a n = true) :
    Calls Tryd.prog 29 #[.int .i64 lat, .int .i64 a, .int .i64 n] w (LongRet f a n w) := by
  have hc := season_iff.1 hs
  refine darklong_ok lat a n f n w (by omega) (fun W hI => (dlong_each lat a n f w W hS hI hf hfb a0 a1 (by omega) (by omega)).mono ?_)
  rintro e w' (⟨_, h⟩ | ⟨h, _⟩)
  · exact h
  · rw [hs] at h; cases h
end Go.Proofs.YtagebpmciimcgabDoor
