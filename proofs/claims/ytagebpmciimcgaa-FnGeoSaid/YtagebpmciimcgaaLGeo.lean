/- The law of horizons. -/
import Derived.Test.YtagebpmciimcgaaRngS
import Derived.Test.YtagebpmciimcgaaFndR
namespace Go.Proofs.Ytagebpmciimcgaa
open Go.ChangeShapes Go.WideShapes Go.ChangeAt Go.RowKit Pm

theorem geo_ok (h e : Int) (w : World) (h0 : 0 ≤ h ∧ h ≤ 3000) (e0 : 0 ≤ e ∧ e ≤ 3000) :
    Calls Try.prog 15 #[.int .i64 h, .int .i64 e] w (RetP (horV h + horV e) 0 w) :=
  georange_any h e _ 0 w (.inr ⟨by rw [inB_in h0, inB_in e0]; rfl, rfl, rfl⟩)

set_option maxRecDepth 100000 in
set_option maxHeartbeats 4000000 in
theorem geo_law (a0 : Option Addr) (len0 cap0 : Nat) (zs : List Int) (w : World) (hA : ArgIn .u8 w (.slice a0 len0 cap0) zs) (hl : zs.length = len0) (hz : BytesAre zs) :
    Calls Try.prog 3 #[.slice a0 len0 cap0] w fun e w' => e = .returned (.bool true) ∧ Below w.heap.size w w' := by
  by_cases hlen : len0 ≤ 1048576
  · have hl1 : zs.length ≤ 1048576 := by omega
    have HW0 := Lib.hid (show ∀ w', Below w.heap.size w w' → Calls Try.prog 14 #[.slice a0 len0 cap0, .int .i64 0, .int .i64 3000] w' fun e w'' => e = .returned (.int .i64 (wideV zs 0 3000)) ∧ w' = w'' from fun w' hb => r8wide_any w' _ zs 0 3000 (hA.below hb) hz hl1 (by omega) (by omega) (by omega))
    have HW2 := Lib.hid (show ∀ w', Below w.heap.size w w' → Calls Try.prog 14 #[.slice a0 len0 cap0, .int .i64 2, .int .i64 3000] w' fun e w'' => e = .returned (.int .i64 (wideV zs 2 3000)) ∧ w' = w'' from fun w' hb => r8wide_any w' _ zs 2 3000 (hA.below hb) hz hl1 (by omega) (by omega) (by omega))
    have HW4 := Lib.hid (show ∀ w', Below w.heap.size w w' → Calls Try.prog 14 #[.slice a0 len0 cap0, .int .i64 4, .int .i64 65536] w' fun e w'' => e = .returned (.int .i64 (wideV zs 4 65536)) ∧ w' = w'' from fun w' hb => r8wide_any w' _ zs 4 65536 (hA.below hb) hz hl1 (by omega) (by omega) (by omega))
    obtain ⟨h0, h1⟩ := wideV_bd (zs := zs) (k := 0) (n := 3000) (by omega)
    obtain ⟨e0, e1⟩ := wideV_bd (zs := zs) (k := 2) (n := 3000) (by omega)
    obtain ⟨d0, d1⟩ := wideV_bd (zs := zs) (k := 4) (n := 65536) (by omega)
    generalize wideV zs 0 3000 = h at *
    generalize wideV zs 2 3000 = e at *
    generalize wideV zs 4 65536 = d at *
    obtain ⟨eye, i, hE⟩ := eyeIs_ex h (1 + d)
    have HE := Lib.hid (fun w' (_ : Below w.heap.size w w') => eyefor_any h (1 + d) eye i w' hE)
    have hEye : LeastIs (eyeB h (1 + d)) 0 3000 eye i := by
      rcases hE with ⟨k, _, _⟩ | ⟨_, k⟩
      · rw [inB_in ⟨h0, by omega⟩, inB_in ⟨by omega, by omega⟩] at k; cases k
      · exact k
    have HG1 := fun w' (_ : Below w.heap.size w w') => geo_ok h e w' ⟨h0, by omega⟩ ⟨e0, by omega⟩
    have HG2 := fun w' (_ : Below w.heap.size w w') => geo_ok e h w' ⟨e0, by omega⟩ ⟨h0, by omega⟩
    have HG3 := fun w' (_ : Below w.heap.size w w') => geo_ok (h + 1) e w' ⟨by omega, by omega⟩ ⟨e0, by omega⟩
    have HG4 := fun w' (_ : Below w.heap.size w w') => geo_ok h 3000 w' ⟨h0, by omega⟩ ⟨by omega, by omega⟩
    have HG5 := fun w' (_ : Below w.heap.size w w') (q : 0 ≤ eye ∧ eye ≤ 3000) => geo_ok h eye w' ⟨h0, by omega⟩ q
    have HG6 := fun w' (_ : Below w.heap.size w w') (q : 0 ≤ eye - 1 ∧ eye - 1 ≤ 3000) => geo_ok h (eye - 1) w' ⟨h0, by omega⟩ q
    rw [Int.add_comm (horV e) (horV h)] at HG2
    have m1 := hor_mono h0 (show h ≤ h + 1 by omega)
    obtain ⟨b0, b1⟩ := hor_bd h0 (show h ≤ 3001 by omega)
    obtain ⟨b2, b3⟩ := hor_bd e0 (show e ≤ 3001 by omega)
    have hF : (i = 3 ∧ horV h + horV 3000 < 1 + d) ∨ (i = 0 ∧ 0 ≤ eye ∧ eye ≤ 3000 ∧ 1 + d ≤ horV h + horV eye ∧ (eye = 0 ∨ (1 ≤ eye ∧ horV h + horV (eye - 1) < 1 + d))) := by
      obtain ⟨r, ⟨r0, r1, r2, r3⟩, ⟨k, rfl, rfl⟩ | ⟨k, rfl, rfl⟩⟩ := hEye
      · refine .inr ⟨rfl, r0, k, by simpa [eyeB] using r3 eye (by omega) k, ?_⟩
        by_cases z : eye = 0
        · exact .inl z
        · exact .inr ⟨by omega, by simpa [eyeB] using r2 (eye - 1) (by omega) (by omega)⟩
      · exact .inl ⟨rfl, by simpa [eyeB] using r2 3000 (by omega) (by omega)⟩
    generalize hA1 : horV h + horV e = A at *
    generalize hA2 : horV (h + 1) + horV e = F at *
    generalize horV h + horV 3000 = M at *
    generalize horV h + horV eye = X at *
    generalize horV h + horV (eye - 1) = Y at *
    have a0' : 0 ≤ A := by omega
    have a1' : A ≤ F := by omega
    clear hA1 hA2 m1 b0 b1 b2 b3 hEye hE
    have HG1 := Lib.hid HG1
    have HG2 := Lib.hid HG2
    have HG3 := Lib.hid HG3
    have HG4 := Lib.hid HG4
    have HG5 := Lib.hid HG5
    have HG6 := Lib.hid HG6
    have HBB := Lib.hid (Below.refl w.heap.size w)
    have hlz : (len0 : Int) ≤ 1048576 := by omega
    clear hA hz hl hlen
    go_enter Try.func3, Try.ntmps3
    go_wp2_with (go_at_call 14; (with_reducible refine (HW0.out _ HBB.out).mono ?_); rintro e w1 ⟨rfl, rfl⟩; refine Hid.out ?_)
    refine Lib.hid ?_
    go_wp2_with (go_at_call 14; (with_reducible refine (HW2.out _ HBB.out).mono ?_); rintro e w1 ⟨rfl, rfl⟩; refine Hid.out ?_)
    refine Lib.hid ?_
    go_wp2_with (go_at_call 15; (with_reducible refine (HG1.out _ HBB.out).mono ?_); rintro e w1 ⟨rfl, hb⟩; refine Hid.out ?_)
    refine Lib.hid ?_
    replace HBB := Lib.hid (Below.next HBB.out hb)
    clear hb
    go_wp2_with (go_at_call 15; (with_reducible refine (HG2.out _ HBB.out).mono ?_); rintro e w1 ⟨rfl, hb⟩; refine Hid.out ?_)
    refine Lib.hid ?_
    replace HBB := Lib.hid (Below.next HBB.out hb)
    clear hb
    go_wp2_with (go_at_call 15; (with_reducible refine (HG3.out _ HBB.out).mono ?_); rintro e w1 ⟨rfl, hb⟩; refine Hid.out ?_)
    refine Lib.hid ?_
    replace HBB := Lib.hid (Below.next HBB.out hb)
    clear hb
    go_wp2_with (go_at_call 14; (with_reducible refine (HW4.out _ HBB.out).mono ?_); rintro e w1 ⟨rfl, rfl⟩; refine Hid.out ?_)
    refine Lib.hid ?_
    go_wp2_with (go_at_call 16; (with_reducible refine (HE.out _ HBB.out).mono ?_); rintro e w1 ⟨rfl, hb⟩; refine Hid.out ?_)
    refine Lib.hid ?_
    replace HBB := Lib.hid (Below.next HBB.out hb)
    clear hb
    rcases hF with ⟨rfl, f1⟩ | ⟨rfl, f0, f1, f2, f3⟩
    · go_wp2_with (go_at_call 15; (with_reducible refine (HG4.out _ HBB.out).mono ?_); rintro e w1 ⟨rfl, hb⟩; refine Hid.out ?_)
      refine Lib.hid ?_
      replace HBB := Lib.hid (Below.next HBB.out hb)
      clear hb
      go_wp2
      go_ret
      exact ⟨rfl, HBB.out⟩
    · replace HG5 := Lib.hid (fun w' hb => HG5.out w' hb ⟨f0, f1⟩)
      rcases f3 with rfl | ⟨f3, f4⟩
      · go_wp2_with (go_at_call 15; (with_reducible refine (HG5.out _ HBB.out).mono ?_); rintro e w1 ⟨rfl, hb⟩; refine Hid.out ?_)
        refine Lib.hid ?_
        replace HBB := Lib.hid (Below.next HBB.out hb)
        clear hb
        go_wp2
        go_ret
        exact ⟨rfl, HBB.out⟩
      · have z0 : (eye == 0) = false := by simp; omega
        replace HG6 := Lib.hid (fun w' hb => HG6.out w' hb ⟨by omega, by omega⟩)
        go_wp2_with (go_at_call 15; (with_reducible refine (HG5.out _ HBB.out).mono ?_); rintro e w1 ⟨rfl, hb⟩; refine Hid.out ?_)
        refine Lib.hid ?_
        replace HBB := Lib.hid (Below.next HBB.out hb)
        clear hb
        go_wp2_with (go_at_call 15; (with_reducible refine (HG6.out _ HBB.out).mono ?_); rintro e w1 ⟨rfl, hb⟩; refine Hid.out ?_)
        refine Lib.hid ?_
        replace HBB := Lib.hid (Below.next HBB.out hb)
        clear hb
        go_wp2
        go_ret
        exact ⟨rfl, HBB.out⟩
  · have hlz : 1048576 < (len0 : Int) := by omega
    clear hA hz hl hlen
    go_enter Try.func3, Try.ntmps3
    go_wp2
    go_ret
    exact ⟨rfl, Below.refl _ _⟩
end Go.Proofs.Ytagebpmciimcgaa
