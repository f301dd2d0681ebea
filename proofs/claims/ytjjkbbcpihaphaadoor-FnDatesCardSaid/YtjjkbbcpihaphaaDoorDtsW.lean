/- The law of dates: its walk, over what each call answers. -/
import Derived.Test.YtjjkbbcpihaphaaDoorFndR
import Derived.Test.YtjjkbbcpihaphaaDoorRdq
import Derived.Test.YtjjkbbcpihaphaaDoorCalW
namespace Go.Proofs.YtjjkbbcpihaphaaDoor
open Go.ChangeShapes Go.WideShapes Go.ChangeAt Go.RowKit Pm

set_option maxRecDepth 100000 in
set_option maxHeartbeats 4000000 in
theorem dates_walk (a : Option Addr) (len cap : Nat) (sv : Value) (hsv : sv = .slice a len cap) (hl : len ≤ 1048576) (A B y m d n u v p q L t c : Int) (s cs : ByteArray) (b : Bool) (w : World)
    (A0 : 0 ≤ A) (A1 : A < 65536) (B0 : 0 ≤ B) (B1 : B < 34000) (y0 : 2000 ≤ y) (y1 : y ≤ 2272) (d0 : 1 ≤ d) (d1 : d ≤ n)
    (u0 : 0 ≤ u) (u1 : u < 7) (hv : v = (u + 1) % 7) (p0 : 1 ≤ p) (p1 : p ≤ 366) (hq : q = p + 1 ∨ (q ≠ p + 1 ∧ q = 1 ∧ 365 ≤ p)) (ht : t = d ∨ (t ≠ d ∧ m = 2 ∧ d = 29 ∧ t = 28))
    (HW0 : Hid (∀ w', Below w.heap.size w w' → Calls Tryd.prog 12 #[sv, .int .i64 0, .int .i64 65536] w' fun e w'' => e = .returned (.int .i64 A) ∧ w' = w''))
    (HW2 : Hid (∀ w', Below w.heap.size w w' → Calls Tryd.prog 12 #[sv, .int .i64 2, .int .i64 34000] w' fun e w'' => e = .returned (.int .i64 B) ∧ w' = w''))
    (HDO : Hid (∀ w', Below w.heap.size w w' → Calls Tryd.prog 13 #[.int .i64 (A + B)] w' (Ret4 y m d 0 w')))
    (HDY : Hid (∀ w', Below w.heap.size w w' → Calls Tryd.prog 14 #[.int .i64 y, .int .i64 m, .int .i64 d] w' (Ret2 (A + B) 0 w')))
    (HDT : Hid (∀ w', Below w.heap.size w w' → Calls Tryd.prog 16 #[.int .i64 (A + B)] w' fun e w'' => e = .returned (.string s) ∧ Below w'.heap.size w' w''))
    (HRD : Hid (∀ w', Below w.heap.size w w' → Calls Tryd.prog 15 #[.string s] w' (RetIBr (A + B) true w')))
    (HMD : Hid (∀ w', Below w.heap.size w w' → Calls Tryd.prog 17 #[.int .i64 y, .int .i64 m] w' (Ret2 n 0 w')))
    (HWA : Hid (∀ w', Below w.heap.size w w' → Calls Tryd.prog 18 #[.int .i64 (A + B)] w' (Ret2 u 0 w')))
    (HWB : Hid (∀ w', Below w.heap.size w w' → Calls Tryd.prog 18 #[.int .i64 (A + B + 1)] w' (Ret2 v 0 w')))
    (HPA : Hid (∀ w', Below w.heap.size w w' → Calls Tryd.prog 19 #[.int .i64 (A + B)] w' (Ret2 p 0 w')))
    (HPB : Hid (∀ w', Below w.heap.size w w' → Calls Tryd.prog 19 #[.int .i64 (A + B + 1)] w' (Ret2 q 0 w')))
    (HAM : Hid (∀ w', Below w.heap.size w w' → Calls Tryd.prog 20 #[.int .i64 (A + B), .int .i64 12] w' (Ret2 L 0 w')))
    (HW4 : Hid (∀ w', Below w.heap.size w w' → Calls Tryd.prog 12 #[sv, .int .i64 4, .int .i64 1440] w' fun e w'' => e = .returned (.int .i64 c) ∧ w' = w''))
    (HCT : Hid (∀ w', Below w.heap.size w w' → Calls Tryd.prog 22 #[.int .i64 c] w' fun e w'' => e = .returned (.string cs) ∧ Below w'.heap.size w' w''))
    (HRC : Hid (∀ w', Below w.heap.size w w' → Calls Tryd.prog 21 #[.string cs] w' (RetIBr c true w')))
    (HDL : Hid (∀ w', Below w.heap.size w w' → Calls Tryd.prog 13 #[.int .i64 L] w' (Ret4 (y + 1) m t 0 w')))
    (HIL : Hid (∀ w', Below w.heap.size w w' → Calls Tryd.prog 23 #[.int .i64 y] w' fun e w'' => e = .returned (.bool b) ∧ Below w'.heap.size w' w''))
    (HRL : Hid (∀ w', Below w.heap.size w w' → Calls Tryd.prog 24 #[.int .i64 y] w' fun e w'' => e = .returned (.bool b) ∧ w' = w'')) :
    Calls Tryd.prog 3 #[.slice a len cap] w fun e w' => e = .returned (.bool true) ∧ Below w.heap.size w w' := by
  have hl2 : ¬ (1048576 : Int) < (len : Int) := by omega
  have HBB := Lib.hid (Below.refl w.heap.size w)
  clear hl
  subst hsv
  go_enter Tryd.func3, Tryd.ntmps3
  go_wp2_with (go_at_call 12; refine (HW0.out _ HBB.out).mono ?_; rintro e w1 ⟨rfl, rfl⟩; refine Hid.out ?_)
  refine Lib.hid ?_
  go_wp2_with (go_at_call 12; refine (HW2.out _ HBB.out).mono ?_; rintro e w1 ⟨rfl, rfl⟩; refine Hid.out ?_)
  refine Lib.hid ?_
  go_wp2_with (go_at_call 13; refine (HDO.out _ HBB.out).mono ?_; rintro e w1 ⟨rfl, hb⟩; refine Hid.out ?_)
  refine Lib.hid ?_
  replace HBB := Lib.hid (Below.next HBB.out hb)
  clear hb
  go_wp2_with (go_at_call 14; refine (HDY.out _ HBB.out).mono ?_; rintro e w1 ⟨rfl, hb⟩; refine Hid.out ?_)
  refine Lib.hid ?_
  replace HBB := Lib.hid (Below.next HBB.out hb)
  clear hb
  go_wp2_with (go_at_call 16; refine (HDT.out _ HBB.out).mono ?_; rintro e w1 ⟨rfl, hb⟩; refine Hid.out ?_)
  refine Lib.hid ?_
  replace HBB := Lib.hid (Below.next HBB.out hb)
  clear hb
  go_wp2_with (go_at_call 15; refine (HRD.out _ HBB.out).mono ?_; rintro e w1 ⟨rfl, hb⟩; refine Hid.out ?_)
  refine Lib.hid ?_
  replace HBB := Lib.hid (Below.next HBB.out hb)
  clear hb
  go_wp2_with (go_at_call 17; refine (HMD.out _ HBB.out).mono ?_; rintro e w1 ⟨rfl, hb⟩; refine Hid.out ?_)
  refine Lib.hid ?_
  replace HBB := Lib.hid (Below.next HBB.out hb)
  clear hb
  go_wp2_with (go_at_call 18; refine (HWA.out _ HBB.out).mono ?_; rintro e w1 ⟨rfl, hb⟩; refine Hid.out ?_)
  refine Lib.hid ?_
  replace HBB := Lib.hid (Below.next HBB.out hb)
  clear hb
  go_wp2_with (go_at_call 18; refine (HWB.out _ HBB.out).mono ?_; rintro e w1 ⟨rfl, hb⟩; refine Hid.out ?_)
  refine Lib.hid ?_
  replace HBB := Lib.hid (Below.next HBB.out hb)
  clear hb
  rcases hq with hq | ⟨hq0, hq1, hq2⟩
  all_goals
    go_wp2_with (go_at_call 19; refine (HPA.out _ HBB.out).mono ?_; rintro e w1 ⟨rfl, hb⟩; refine Hid.out ?_)
    refine Lib.hid ?_
    replace HBB := Lib.hid (Below.next HBB.out hb)
    clear hb
    go_wp2_with (go_at_call 19; refine (HPB.out _ HBB.out).mono ?_; rintro e w1 ⟨rfl, hb⟩; refine Hid.out ?_)
    refine Lib.hid ?_
    replace HBB := Lib.hid (Below.next HBB.out hb)
    clear hb
    go_wp2_with (go_at_call 20; refine (HAM.out _ HBB.out).mono ?_; rintro e w1 ⟨rfl, hb⟩; refine Hid.out ?_)
    refine Lib.hid ?_
    replace HBB := Lib.hid (Below.next HBB.out hb)
    clear hb
    go_wp2_with (go_at_call 12; refine (HW4.out _ HBB.out).mono ?_; rintro e w1 ⟨rfl, rfl⟩; refine Hid.out ?_)
    refine Lib.hid ?_
    go_wp2_with (go_at_call 22; refine (HCT.out _ HBB.out).mono ?_; rintro e w1 ⟨rfl, hb⟩; refine Hid.out ?_)
    refine Lib.hid ?_
    replace HBB := Lib.hid (Below.next HBB.out hb)
    clear hb
    go_wp2_with (go_at_call 21; refine (HRC.out _ HBB.out).mono ?_; rintro e w1 ⟨rfl, hb⟩; refine Hid.out ?_)
    refine Lib.hid ?_
    replace HBB := Lib.hid (Below.next HBB.out hb)
    clear hb
    go_wp2_with (go_at_call 13; refine (HDL.out _ HBB.out).mono ?_; rintro e w1 ⟨rfl, hb⟩; refine Hid.out ?_)
    refine Lib.hid ?_
    replace HBB := Lib.hid (Below.next HBB.out hb)
    clear hb
    rcases ht with ht | ⟨ht0, ht1, ht2, ht3⟩
    all_goals
      go_wp2_with (go_at_call 23; refine (HIL.out _ HBB.out).mono ?_; rintro e w1 ⟨rfl, hb⟩; refine Hid.out ?_)
      refine Lib.hid ?_
      replace HBB := Lib.hid (Below.next HBB.out hb)
      clear hb
      go_wp2_with (go_at_call 24; refine (HRL.out _ HBB.out).mono ?_; rintro e w1 ⟨rfl, rfl⟩; refine Hid.out ?_)
      refine Lib.hid ?_
      cases b
      all_goals
        go_wp2_with (fail)
        go_ret
        exact ⟨rfl, HBB.out⟩
end Go.Proofs.YtjjkbbcpihaphaaDoor
