/- The law of nights: its walk, over what each call answers. -/
import Derived.Test.YtagebpmciimcgabDoorFnnR
import Derived.Test.YtagebpmciimcgabDoorFnnD
import Derived.Test.YtagebpmciimcgabDoorSunG
import Derived.Test.YtagebpmciimcgabDoorSunV
namespace Go.Proofs.YtagebpmciimcgabDoor
open Go.ChangeShapes Go.WideShapes Go.ChangeAt Go.RowKit Pm

/-- What a night's facts are. -/
def NightF (dark rise set two kind mn : Int) : Prop :=
  (two = 3 ∧ dark = 1440) ∨ (two = 0 ∧ 0 ≤ rise ∧ rise ≤ 720 ∧ rise < set ∧ set ≤ 1440 ∧ dark = 1440 - (set - rise) ∧ ((kind = 1 ∧ rise ≤ mn ∧ mn < set) ∨ (kind ≠ 1 ∧ mn < rise) ∨ (kind ≠ 1 ∧ rise ≤ mn ∧ set ≤ mn)))
def NightNo (w : World) (x y : Int) : Prop :=
  (∀ w', Below w.heap.size w w' → Calls Tryd.prog 21 #[.int .i64 x, .int .i64 y] w' (Ret2 0 2 w')) ∧
  (∀ w', Below w.heap.size w w' → Calls Tryd.prog 22 #[.int .i64 x, .int .i64 y] w' (Ret2 0 2 w')) ∧
  (∀ w', Below w.heap.size w w' → Calls Tryd.prog 23 #[.int .i64 x, .int .i64 y] w' (Ret2 0 2 w'))
def NightYes (w : World) (x y mn dark rise set two kind : Int) : Prop :=
  1 ≤ kind ∧ kind ≤ 3 ∧ NightF dark rise set two kind mn ∧ (∀ w', Below w.heap.size w w' → Calls Tryd.prog 21 #[.int .i64 x, .int .i64 y] w' (Ret2 dark 0 w')) ∧
  (∀ w', Below w.heap.size w w' → Calls Tryd.prog 22 #[.int .i64 x, .int .i64 y] w' (Ret2 rise two w')) ∧
  (∀ w', Below w.heap.size w w' → Calls Tryd.prog 23 #[.int .i64 x, .int .i64 y] w' (Ret2 set two w')) ∧
  (∀ w', Below w.heap.size w w' → Calls Tryd.prog 25 #[.int .i64 x, .int .i64 y, .int .i64 mn] w' (Ret2 kind 0 w'))
def SeasonNo (w : World) (p a c : Int) : Prop :=
  (∀ w', Below w.heap.size w w' → Calls Tryd.prog 28 #[.int .i64 p, .int .i64 a, .int .i64 c] w' (Ret2 0 2 w')) ∧
  (∀ w', Below w.heap.size w w' → Calls Tryd.prog 29 #[.int .i64 p, .int .i64 a, .int .i64 c] w' (Ret3 0 0 2 w'))
/-- The longest of a season, and what is known of it. -/
def BestRet (w : World) (p a c sum first : Int) (w1 : World) (e : Ending) (w' : World) : Prop :=
  ∃ best most : Int, a ≤ best ∧ best < a + c ∧ 0 ≤ most ∧ most ≤ 1440 ∧ first ≤ most ∧ sum ≤ c * most ∧ most ≤ sum ∧ 0 ≤ c * most ∧ c * most ≤ 1000000 ∧
    (∀ w', Below w.heap.size w w' → Calls Tryd.prog 21 #[.int .i64 p, .int .i64 best] w' (Ret2 most 0 w')) ∧ e = .returned (.tuple #[.int .i64 best, .int .i64 most, .int .i64 0]) ∧ Below w1.heap.size w1 w'
def SeasonYes (w : World) (p a c sum first : Int) : Prop :=
  0 ≤ a ∧ a ≤ 99999 ∧ 1 ≤ c ∧ c ≤ 400 ∧ (∀ w', Below w.heap.size w w' → Calls Tryd.prog 28 #[.int .i64 p, .int .i64 a, .int .i64 c] w' (Ret2 sum 0 w')) ∧
  (∀ w', Below w.heap.size w w' → Calls Tryd.prog 29 #[.int .i64 p, .int .i64 a, .int .i64 c] w' (BestRet w p a c sum first w')) ∧
  (∀ w', Below w.heap.size w w' → Calls Tryd.prog 21 #[.int .i64 p, .int .i64 a] w' (Ret2 first 0 w'))

theorem str_some {s : ByteArray} (h : s ≠ ⟨#[]⟩) : s.toList.isEmpty = false := by
  have h2 : s.toList ≠ (⟨#[]⟩ : ByteArray).toList := fun e => h (WideShapes.bytes_inj (by rw [← ByteArray.toList_eq, ← ByteArray.toList_eq, e]))
  rw [List.isEmpty_eq_false_iff]
  simpa using h2

set_option maxRecDepth 100000 in
set_option maxHeartbeats 8000000 in
theorem nights_walk (sv0 sv1 : Value) (w : World) (mn : Int) (m0 : 0 ≤ mn) (m1 : mn < 1440)
    (HL0 : Hid (∀ w, Calls Tryd.prog 19 #[sv0] w fun e w' => e = .returned (.bool false) ∧ w = w'))
    (HL1 : Hid (∀ w, Calls Tryd.prog 19 #[sv1] w fun e w' => e = .returned (.bool false) ∧ w = w'))
    (HD0 : Hid (∀ w', Below w.heap.size w w' → Calls Tryd.prog 20 #[sv0] w' fun e w'' => ∃ v, PairP v ∧ e = .returned v ∧ Below w'.heap.size w' w''))
    (HD1 : Hid (∀ w', Below w.heap.size w w' → Calls Tryd.prog 27 #[sv1] w' fun e w'' => ∃ v, SeasonP v ∧ e = .returned v ∧ Below w'.heap.size w' w''))
    (HW : Hid (∀ w', Below w.heap.size w w' → Calls Tryd.prog 24 #[sv1, .int .i64 0, .int .i64 1440] w' fun e w'' => e = .returned (.int .i64 mn) ∧ w' = w''))
    (HN : Hid (∀ x y, NightNo w x y ∨ ∃ dark rise set two kind, NightYes w x y mn dark rise set two kind))
    (HS : Hid (∀ p a c, -1 ≤ a → a ≤ 100000 → 0 ≤ c → c ≤ 401 → SeasonNo w p a c ∨ ∃ sum first, SeasonYes w p a c sum first)) :
    Calls Tryd.prog 4 #[sv0, sv1] w fun e w' => e = .returned (.bool true) ∧ Below w.heap.size w w' := by
  have HBB := Lib.hid (Below.refl w.heap.size w)
  go_enter Tryd.func4, Tryd.ntmps4
  go_wp2_with (go_at_call 19; refine (HL0.out _).mono ?_; rintro e w1 ⟨rfl, rfl⟩; refine Hid.out ?_)
  refine Lib.hid ?_
  go_wp2_with (go_at_call 19; refine (HL1.out _).mono ?_; rintro e w1 ⟨rfl, rfl⟩; refine Hid.out ?_)
  refine Lib.hid ?_
  go_wp2_with (go_at_call 20; refine (HD0.out _ HBB.out).mono ?_; rintro e w1 ⟨_, ⟨x, y, x0, x1, y0, y1, rfl⟩, rfl, hb⟩; refine Hid.out ?_)
  refine Lib.hid ?_
  replace HBB := Lib.hid (Below.next HBB.out hb)
  clear hb
  rcases HN.out x y with ⟨h1, h2, h3⟩ | ⟨dark, rise, set, two, kind, k0, k1, hF, h1, h2, h3, h4⟩
  · have H1 := Lib.hid h1
    have H2 := Lib.hid h2
    have H3 := Lib.hid h3
    clear h1 h2 h3
    go_wp2_with (go_at_call 21; refine (H1.out _ HBB.out).mono ?_; rintro e w1 ⟨rfl, hb⟩; refine Hid.out ?_)
    refine Lib.hid ?_
    replace HBB := Lib.hid (Below.next HBB.out hb)
    clear hb
    go_wp2_with (go_at_call 22; refine (H2.out _ HBB.out).mono ?_; rintro e w1 ⟨rfl, hb⟩; refine Hid.out ?_)
    refine Lib.hid ?_
    replace HBB := Lib.hid (Below.next HBB.out hb)
    clear hb
    go_wp2_with (go_at_call 23; refine (H3.out _ HBB.out).mono ?_; rintro e w1 ⟨rfl, hb⟩; refine Hid.out ?_)
    refine Lib.hid ?_
    replace HBB := Lib.hid (Below.next HBB.out hb)
    clear hb
    go_wp2_with (fail)
    go_ret
    exact ⟨rfl, HBB.out⟩
  · have H1 := Lib.hid h1
    have H2 := Lib.hid h2
    have H3 := Lib.hid h3
    have H4 := Lib.hid h4
    clear h1 h2 h3 h4
    have HK := Lib.hid (fun w => named_kind kind w k0 k1)
    rcases hF with ⟨rfl, rfl⟩ | ⟨rfl, r0, r1, r2, r3, rfl, ⟨rfl, q0, q1⟩ | ⟨q0, q1⟩ | ⟨q0, q1, q2⟩⟩
    rotate_right
    have q3 : (kind == 1) = decide (mn < set) := by rw [beq_eq_false_iff_ne.2 q0, decide_eq_false (by omega)]
    rotate_left
    all_goals
      go_wp2_with (go_at_call 21; refine (H1.out _ HBB.out).mono ?_; rintro e w1 ⟨rfl, hb⟩; refine Hid.out ?_)
      refine Lib.hid ?_
      replace HBB := Lib.hid (Below.next HBB.out hb)
      clear hb
      go_wp2_with (go_at_call 22; refine (H2.out _ HBB.out).mono ?_; rintro e w1 ⟨rfl, hb⟩; refine Hid.out ?_)
      refine Lib.hid ?_
      replace HBB := Lib.hid (Below.next HBB.out hb)
      clear hb
      go_wp2_with (go_at_call 23; refine (H3.out _ HBB.out).mono ?_; rintro e w1 ⟨rfl, hb⟩; refine Hid.out ?_)
      refine Lib.hid ?_
      replace HBB := Lib.hid (Below.next HBB.out hb)
      clear hb
      go_wp2_with (go_at_call 24; refine (HW.out _ HBB.out).mono ?_; rintro e w1 ⟨rfl, rfl⟩; refine Hid.out ?_)
      refine Lib.hid ?_
      go_wp2_with (go_at_call 25; refine (H4.out _ HBB.out).mono ?_; rintro e w1 ⟨rfl, hb⟩; refine Hid.out ?_)
      refine Lib.hid ?_
      replace HBB := Lib.hid (Below.next HBB.out hb)
      clear hb
      go_wp2_with (go_at_call 26; refine (HK.out _).mono ?_; rintro e w1 ⟨name, hs, rfl, hb⟩; have hs1 := str_some hs; refine Hid.out ?_)
      refine Lib.hid ?_
      replace HBB := Lib.hid (Below.next HBB.out hb)
      clear hb
      clear hs
      go_wp2_with (go_at_call 27; refine (HD1.out _ HBB.out).mono ?_; rintro e w1 ⟨_, ⟨p, a, c, p0, p1, a0, a1, c0, c1, rfl⟩, rfl, hb⟩; refine Hid.out ?_)
      refine Lib.hid ?_
      replace HBB := Lib.hid (Below.next HBB.out hb)
      clear hb
      rcases HS.out p a c a0 a1 c0 c1 with ⟨h5, h6⟩ | ⟨sum, first, b0, b1, d0, d1, h5, h6, h7⟩
      · have H5 := Lib.hid h5
        have H6 := Lib.hid h6
        clear h5 h6
        go_wp2_with (go_at_call 28; refine (H5.out _ HBB.out).mono ?_; rintro e w1 ⟨rfl, hb⟩; refine Hid.out ?_)
        refine Lib.hid ?_
        replace HBB := Lib.hid (Below.next HBB.out hb)
        clear hb
        go_wp2_with (go_at_call 29; refine (H6.out _ HBB.out).mono ?_; rintro e w1 ⟨rfl, hb⟩; refine Hid.out ?_)
        refine Lib.hid ?_
        replace HBB := Lib.hid (Below.next HBB.out hb)
        clear hb
        go_wp2_with (fail)
        go_ret
        exact ⟨rfl, HBB.out⟩
      · have H5 := Lib.hid h5
        have H6 := Lib.hid h6
        have H7 := Lib.hid h7
        clear h5 h6 h7
        go_wp2_with (go_at_call 28; refine (H5.out _ HBB.out).mono ?_; rintro e w1 ⟨rfl, hb⟩; refine Hid.out ?_)
        refine Lib.hid ?_
        replace HBB := Lib.hid (Below.next HBB.out hb)
        clear hb
        go_wp2_with (go_at_call 29; refine (H6.out _ HBB.out).mono ?_; rintro e w1 ⟨best, most, g0, g1, g2, g3, g4, g5, g6, g7, g8, h8, rfl, hb⟩; have H8 := Lib.hid h8; clear h8; refine Hid.out ?_)
        refine Lib.hid ?_
        replace HBB := Lib.hid (Below.next HBB.out hb)
        clear hb
        go_wp2_with (go_at_call 21; refine (H8.out _ HBB.out).mono ?_; rintro e w1 ⟨rfl, hb⟩; refine Hid.out ?_)
        refine Lib.hid ?_
        replace HBB := Lib.hid (Below.next HBB.out hb)
        clear hb
        go_wp2_with (go_at_call 21; refine (H7.out _ HBB.out).mono ?_; rintro e w1 ⟨rfl, hb⟩; refine Hid.out ?_)
        refine Lib.hid ?_
        replace HBB := Lib.hid (Below.next HBB.out hb)
        clear hb
        go_wp2_with (fail)
        go_ret
        exact ⟨rfl, HBB.out⟩
end Go.Proofs.YtagebpmciimcgabDoor
