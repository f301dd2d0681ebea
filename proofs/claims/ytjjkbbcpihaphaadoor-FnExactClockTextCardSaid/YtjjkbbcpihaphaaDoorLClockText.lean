/- The law of ClockText. -/
import Derived.Test.YtjjkbbcpihaphaaDoorDtx
namespace Go.Proofs.YtjjkbbcpihaphaaDoor
open Go.ChangeShapes Go.WideShapes Go.ChangeAt Go.RowKit Pm

theorem clocktext_law (t : Int) (w : World) (hL : laidMetH Tryd.prog Rows.fnExactClockTextRow.laid w) :
    Calls Tryd.prog 10 #[.int .i64 t] w fun e w' => e = .returned (.bool true) ∧ Below w.heap.size w w' := by
  rw [MakeChecks.laidMetH_plain _ _ _ (by kernel_rfl)] at hL
  have HP := Lib.hid (pow_of hL)
  clear hL
  cases h : inB 0 1439 [t]
  · have HS := Lib.hid (fun w => sclocktext_no t w h)
    have HI := Lib.hid (fun w => clocktext_no t w h)
    clear h
    go_enter Tryd.func10, Tryd.ntmps10
    go_wp2_with (first
      | (go_at_call 31; refine (HS.out _).mono ?_; rintro e w1 ⟨rfl, hb⟩)
      | (go_at_call 22; refine (HI.out _).mono ?_; rintro e w2 ⟨rfl, hb2⟩))
    go_ret
    exact ⟨rfl, by first | exact Below.next hb hb2 | go_grown⟩
  · have hb : 0 ≤ t ∧ t ≤ 1439 := by simpa [inB] using h
    obtain ⟨t, rfl⟩ := Int.eq_ofNat_of_zero_le hb.1
    have HS := fun w => sclocktext_yes t w (by omega)
    have HI := fun w hP => clocktext_yes t w hP (by omega)
    obtain ⟨s, es⟩ : ∃ s, s = clockS t := ⟨_, rfl⟩
    rw [← es] at HS HI
    clear es h
    have HS := Lib.hid HS
    have HI := Lib.hid HI
    go_enter Tryd.func10, Tryd.ntmps10
    go_wp2_with (first
      | (go_at_call 31; refine (HS.out _).mono ?_; rintro e w1 ⟨rfl, hb⟩)
      | (go_at_call 22; refine (HI.out _ (HP.out.below hb)).mono ?_; rintro e w2 ⟨rfl, hb2⟩))
    go_ret
    exact ⟨rfl, by first | exact Below.next hb hb2 | go_grown⟩
end Go.Proofs.YtjjkbbcpihaphaaDoor
