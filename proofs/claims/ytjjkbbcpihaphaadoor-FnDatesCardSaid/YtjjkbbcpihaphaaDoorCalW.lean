/- The program's weekdays. -/
import Derived.Test.YtjjkbbcpihaphaaDoorCalY
namespace Go.Proofs.YtjjkbbcpihaphaaDoor
open Go.ChangeShapes Go.WideShapes Go.ChangeAt Go.RowKit Pm

theorem weekday_yes (n : Int) (w : World) (h : inB 0 99999 [n] = true) :
    Calls Tryd.prog 18 #[.int .i64 n] w (Ret2 ((n + 5) % 7) 0 w) := by
  have hb : 0 ≤ n ∧ n ≤ 99999 := by simpa [inB] using h
  have HD := Lib.hid (fun w => h ▸ isday_any n w)
  clear h
  go_enter Tryd.func18, Tryd.ntmps18
  go_wp2_with (first
    | (go_at_call 34; refine (HD.out _).mono ?_; rintro e w1 ⟨rfl, hb1⟩; have ac := Lib.hid hb1; clear hb1))
  go_ret2
  exact ⟨rfl, ac.out⟩
theorem weekday_no (n : Int) (w : World) (h : inB 0 99999 [n] = false) :
    Calls Tryd.prog 18 #[.int .i64 n] w (Ret2 0 2 w) := by
  have HD := Lib.hid (fun w => h ▸ isday_any n w)
  clear h
  go_enter Tryd.func18, Tryd.ntmps18
  go_wp2_with (first
    | (go_at_call 34; refine (HD.out _).mono ?_; rintro e w1 ⟨rfl, hb1⟩; have ac := Lib.hid hb1; clear hb1))
  go_ret2
  exact ⟨rfl, ac.out⟩
end Go.Proofs.YtjjkbbcpihaphaaDoor
