/- The program's calendar: the lengths of months. -/
import Derived.Test.YtjjkbbcpihaphaaDoorCalY
import Derived.Test.YtjjkbbcpihaphaaDoorRows
import Derived.LaidMore
import Derived.Lib.LaidTab
import Derived.Stop.Joined
namespace Go.Proofs.YtjjkbbcpihaphaaDoor
open Go.ChangeShapes Go.WideShapes Go.ChangeAt Go.RowKit Pm

/-- The program's table of months lies there. -/
def MonthsAt (w : World) : Prop := ∀ r, r < 12 → w.cell? ⟨0, r, none⟩ = some (.int .i64 (monTab.getD r 0))
theorem MonthsAt.below {w w' : World} (h : MonthsAt w) (hb : Below w.heap.size w w') : MonthsAt w' := fun r hr => cell_below (h r hr) hb
theorem months_of {W : World} {r : List (String × DataW Unit)} (h : laidMet Tryd.prog (("loop.example/g00953/impl.monthLengths", Rows.laid_loop_example_g00953_impl_monthLengths) :: r) W) : MonthsAt W := by
  have h2 : laidMet Tryd.prog (("loop.example/g00953/impl.monthLengths", Lib.tabData .i64 monTab) :: r) W := h
  have h3 := Lib.tabIs_of_head (g := 0) (t := 51) (e := 2) (n := 12) (by kernel_rfl) (by kernel_rfl) Tryd.underlying51 Tryd.underlying2 (by kernel_rfl) (by kernel_rfl) h2
  intro r hr
  exact h3.cell (by kernel_rfl) r (by rw [show monTab.length = 12 from rfl]; exact hr)

/-! ### The lengths of months -/
theorem lengthof_any (y m : Int) (w : World) (hM : MonthsAt w) (h0 : 2000 ≤ y) (h1 : y ≤ 2273) (m0 : 1 ≤ m) (m1 : m ≤ 12) :
    Calls Tryd.prog 37 #[.int .i64 y, .int .i64 m] w fun e w' => e = .returned (.int .i64 (monthLen y m)) ∧ Below w.heap.size w w' := by
  have hleap : isLeapB y = leapB y := by unfold isLeapB; rw [show inB 2000 2273 [y] = true by simp [inB]; omega]; rfl
  obtain ⟨r, hr⟩ := Int.eq_ofNat_of_zero_le (show 0 ≤ m - 1 by omega)
  have hr12 : r < 12 := by omega
  have hcell := hM r hr12
  by_cases h2 : m = 2
  · subst h2
    obtain rfl : r = 1 := by omega
    clear hr
    cases hl : leapB y
    · have HV := Lib.hid (show (28 : Int) = monthLen y 2 by unfold monthLen; rw [hl]; rfl)
      have HL := Lib.hid (fun w => (hleap.trans hl) ▸ isleap_any y w)
      have HC := Lib.hid (show ∀ w1, Below w.heap.size w w1 → w1.cell? ⟨0, 1, none⟩ = some (.int .i64 28) from fun w1 hb => cell_below hcell hb)
      clear hl hleap hcell hM
      go_enter Tryd.func37, Tryd.ntmps37
      go_wp2_with (go_at_call 23; refine (HL.out _).mono ?_; rintro e w1 ⟨rfl, hb⟩; have hc := HC.out _ hb)
      go_ret
      exact ⟨ret_i HV.out, by go_grown⟩
    · have HV := Lib.hid (show (29 : Int) = monthLen y 2 by unfold monthLen; rw [hl]; rfl)
      have HL := Lib.hid (fun w => (hleap.trans hl) ▸ isleap_any y w)
      have HC := Lib.hid (show ∀ w1, Below w.heap.size w w1 → w1.cell? ⟨0, 1, none⟩ = some (.int .i64 28) from fun w1 hb => cell_below hcell hb)
      clear hl hleap hcell hM
      go_enter Tryd.func37, Tryd.ntmps37
      go_wp2_with (go_at_call 23; refine (HL.out _).mono ?_; rintro e w1 ⟨rfl, hb⟩; have hc := HC.out _ hb)
      go_ret
      exact ⟨ret_i HV.out, by go_grown⟩
  · have b2 : (m == 2) = false := by simp [h2]
    have HV := Lib.hid (mon_tab y m r hr h2 m1)
    obtain ⟨z, hz⟩ : ∃ z, z = monTab.getD r 0 := ⟨_, rfl⟩
    rw [← hz] at hcell HV
    have hm1 : m - 1 = (r : Int) := hr
    have hri : (r : Int) < 12 := by omega
    clear hr hz hleap hM h2
    go_enter Tryd.func37, Tryd.ntmps37
    go_wp2
    go_ret
    exact ⟨ret_i HV.out, by go_grown⟩
end Go.Proofs.YtjjkbbcpihaphaaDoor
