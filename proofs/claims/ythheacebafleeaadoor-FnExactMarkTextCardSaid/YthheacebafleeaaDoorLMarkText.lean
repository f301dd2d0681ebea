/- The law of MarkText. -/
import Derived.Test.YthheacebafleeaaDoorMrkX
import Derived.Test.YthheacebafleeaaDoorMrkY
import Derived.Test.YthheacebafleeaaDoorMrkA
namespace Go.Proofs.YthheacebafleeaaDoor
open Go.ChangeShapes Go.WideShapes Go.ChangeAt Go.RowKit Pm

set_option maxRecDepth 100000 in
set_option maxHeartbeats 1000000 in
theorem marktext_law (k : Int) (c s t : ByteArray) (zc : c.size ≤ maxLen) (zs : s.size ≤ maxLen) (zt : t.size ≤ maxLen) (w : World) (hL : laidMetH Tryd.prog Rows.fnExactMarkTextRow.laid w) :
    Calls Tryd.prog 9 #[.agg #[.int .i64 k, .string c, .string s, .string t]] w fun e w' => e = .returned (.bool true) ∧ Below w.heap.size w w' := by
  rw [MakeChecks.laidMetH_plain _ _ _ (by kernel_rfl)] at hL
  have HM := Lib.hid (marks_in hL (by kernel_rfl))
  have HS := Lib.hid (space_in hL (by kernel_rfl))
  clear hL
  have HT := Lib.hid (fun w => tomark_any k c s t w)
  have HZ := fun w => szmark_any 1048576 k c s t w (by decide) (by decide) zc zs zt
  have HB0 := Lib.hid (show Below w.heap.size w (w.alloc (.cells #[.int .i64 k, .string c, .string s, .string t] 32)) from (Below.refl _ _).alloc (Nat.le_refl _) _)
  by_cases hz : (c.size : Int) + s.size + t.size ≤ 1048576
  · have hn : szM 1048576 c s t = 1048576 - c.size - s.size - t.size := by unfold szM; rw [if_pos hz]
    have h0 : ¬ (1048576 - (c.size : Int) - s.size - t.size) < 0 := by omega
    have h1 : (1048576 - (c.size : Int) - s.size - t.size) ≤ 1048576 := by omega
    rw [hn] at HZ
    generalize (1048576 - (c.size : Int) - s.size - t.size) = n at *
    have HZ := Lib.hid HZ
    have HX := Lib.hid (fun w => smarktext_any k c s t w)
    have HI := Lib.hid (fun w hM hS => marktext_any k c s t w hM hS)
    obtain ⟨r, hr⟩ : ∃ x, x = markText k c s t := ⟨_, rfl⟩
    rw [← hr] at HX HI
    clear hr
    clear hn hz zc zs zt h1
    go_enter Tryd.func9, Tryd.ntmps9
    go_wp2_with (go_at_call 18; refine (HZ.out _).mono ?_; rintro e w1 ⟨rfl, hb⟩; refine Hid.out ?_)
    refine Lib.hid ?_
    have c0 : w1.cell? ⟨w.heap.size, 0, none⟩ = some (.int .i64 k) := cell_below (by simp) hb
    have c1 : w1.cell? ⟨w.heap.size, 1, none⟩ = some (.string c) := cell_below (by simp) hb
    have c2 : w1.cell? ⟨w.heap.size, 2, none⟩ = some (.string s) := cell_below (by simp) hb
    have c3 : w1.cell? ⟨w.heap.size, 3, none⟩ = some (.string t) := cell_below (by simp) hb
    have AC := Lib.hid (Below.next HB0.out hb)
    clear hb
    go_wp2_with (go_at_call 20; refine (HT.out _).mono ?_; rintro e w2 ⟨rfl, hb⟩; refine Hid.out ?_)
    refine Lib.hid ?_
    replace c0 := cell_below c0 hb
    replace c1 := cell_below c1 hb
    replace c2 := cell_below c2 hb
    replace c3 := cell_below c3 hb
    replace AC := Lib.hid (Below.next AC.out hb)
    clear hb
    go_wp2_with (go_at_call 29; refine (HX.out _).mono ?_; rintro e w3 ⟨rfl, hb⟩; refine Hid.out ?_)
    refine Lib.hid ?_
    replace c0 := cell_below c0 hb
    replace c1 := cell_below c1 hb
    replace c2 := cell_below c2 hb
    replace c3 := cell_below c3 hb
    replace AC := Lib.hid (Below.next AC.out hb)
    clear hb
    go_wp2_with (go_at_call 20; refine (HT.out _).mono ?_; rintro e w4 ⟨rfl, hb⟩; refine Hid.out ?_)
    refine Lib.hid ?_
    replace c0 := cell_below c0 hb
    replace c1 := cell_below c1 hb
    replace c2 := cell_below c2 hb
    replace c3 := cell_below c3 hb
    replace AC := Lib.hid (Below.next AC.out hb)
    clear hb
    go_wp2_with (go_at_call 30; refine (HI.out _ (HM.out.below AC.out) (HS.out.below AC.out)).mono ?_; rintro e w5 ⟨rfl, hb⟩; refine Hid.out ?_)
    refine Lib.hid ?_
    replace c0 := cell_below c0 hb
    replace c1 := cell_below c1 hb
    replace c2 := cell_below c2 hb
    replace c3 := cell_below c3 hb
    replace AC := Lib.hid (Below.next AC.out hb)
    clear hb
    go_wp2
    go_ret
    exact ⟨rfl, AC.out⟩
  · have hn : szM 1048576 c s t = -1 := by unfold szM; rw [if_neg hz]
    rw [hn] at HZ
    have HZ := Lib.hid HZ
    clear hn hz zc zs zt
    go_enter Tryd.func9, Tryd.ntmps9
    go_wp2_with (go_at_call 18; refine (HZ.out _).mono ?_; rintro e w1 ⟨rfl, hb⟩; refine Hid.out ?_)
    refine Lib.hid ?_
    have c0 : w1.cell? ⟨w.heap.size, 0, none⟩ = some (.int .i64 k) := cell_below (by simp) hb
    have c1 : w1.cell? ⟨w.heap.size, 1, none⟩ = some (.string c) := cell_below (by simp) hb
    have c2 : w1.cell? ⟨w.heap.size, 2, none⟩ = some (.string s) := cell_below (by simp) hb
    have c3 : w1.cell? ⟨w.heap.size, 3, none⟩ = some (.string t) := cell_below (by simp) hb
    have AC := Lib.hid (Below.next HB0.out hb)
    clear hb
    go_wp2
    go_ret
    exact ⟨rfl, AC.out⟩
end Go.Proofs.YthheacebafleeaaDoor
