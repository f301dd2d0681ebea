/- The law of DayOfYear. -/
import Derived.Test.YtjjkbbcpihaphaaCalT
import Derived.Test.YtjjkbbcpihaphaaCalY
namespace Go.Proofs.Ytjjkbbcpihaphaa
open Go.ChangeShapes Go.WideShapes Go.ChangeAt Go.RowKit Pm

theorem dayofyear_law (n : Int) (w : World) :
    Calls Try.prog 4 #[.int .i64 n] w fun e w' => e = .returned (.bool true) ∧ Below w.heap.size w w' := by
  cases h : inB 0 99999 [n]
  · have HS := Lib.hid (fun w => sdayofyear_no n w h)
    have HI := Lib.hid (fun w => dayofyear_no n w h)
    clear h
    go_enter Try.func4, Try.ntmps4
    go_wp2_with (first
      | (go_at_call 8; refine (HS.out _).mono ?_; rintro e w1 ⟨rfl, rfl⟩)
      | (go_at_call 9; refine (HI.out _).mono ?_; rintro e w2 ⟨rfl, hb⟩))
    go_ret
    exact ⟨rfl, hb⟩
  · have hb : 0 ≤ n ∧ n ≤ 99999 := by simpa [inB] using h
    obtain ⟨y, m, d, hd⟩ := date_ex hb.1
    have HS := fun w => sdayofyear_yes n y m d w hd hb.2
    have HI := fun w => dayofyear_yes n y m d w hd hb.2
    obtain ⟨z, hz⟩ : ∃ z, z = n - yearAt y + 1 := ⟨_, rfl⟩
    rw [← hz] at HS HI
    have HS := Lib.hid HS
    have HI := Lib.hid HI
    clear h hz hb hd
    go_enter Try.func4, Try.ntmps4
    go_wp2_with (first
      | (go_at_call 8; refine (HS.out _).mono ?_; rintro e w1 ⟨rfl, rfl⟩)
      | (go_at_call 9; refine (HI.out _).mono ?_; rintro e w2 ⟨rfl, hb⟩))
    go_ret
    exact ⟨rfl, hb⟩
end Go.Proofs.Ytjjkbbcpihaphaa
