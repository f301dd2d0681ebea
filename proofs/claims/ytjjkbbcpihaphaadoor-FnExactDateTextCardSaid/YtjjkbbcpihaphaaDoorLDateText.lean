/- The law of DateText. -/
import Derived.Test.YtjjkbbcpihaphaaDoorDtx
namespace Go.Proofs.YtjjkbbcpihaphaaDoor
open Go.ChangeShapes Go.WideShapes Go.ChangeAt Go.RowKit Pm

theorem datetext_law (n : Int) (w : World) (hL : laidMetH Tryd.prog Rows.fnExactDateTextRow.laid w) :
    Calls Tryd.prog 8 #[.int .i64 n] w fun e w' => e = .returned (.bool true) ∧ Below w.heap.size w w' := by
  rw [MakeChecks.laidMetH_plain _ _ _ (by kernel_rfl)] at hL
  have HP := Lib.hid (pow_of hL)
  have HM := Lib.hid (months_of hL.tail.tail.tail)
  clear hL
  cases h : inB 0 99999 [n]
  · have HS := Lib.hid (fun w => sdatetext_no n w h)
    have HI := Lib.hid (fun w => datetext_no n w h)
    clear h
    go_enter Tryd.func8, Tryd.ntmps8
    go_wp2_with (first
      | (go_at_call 29; refine (HS.out _).mono ?_; rintro e w1 ⟨rfl, hb⟩)
      | (go_at_call 16; refine (HI.out _).mono ?_; rintro e w2 ⟨rfl, hb2⟩))
    go_ret
    exact ⟨rfl, by first | exact Below.next hb hb2 | go_grown⟩
  · have hb : 0 ≤ n ∧ n ≤ 99999 := by simpa [inB] using h
    obtain ⟨y, m, d, hd⟩ := date_ex hb.1
    obtain ⟨y, rfl⟩ := Int.eq_ofNat_of_zero_le (show 0 ≤ y by have := hd.1; omega)
    obtain ⟨m, rfl⟩ := Int.eq_ofNat_of_zero_le (show 0 ≤ m by have := hd.2.1; omega)
    obtain ⟨d, rfl⟩ := Int.eq_ofNat_of_zero_le (show 0 ≤ d by have := hd.2.2.2.1; omega)
    have HS := fun w => sdatetext_yes n y m d w hd hb.2
    have HI := fun w hM hP => datetext_yes n y m d w hM hP hd hb.2
    obtain ⟨s, es⟩ : ∃ s, s = dateS y m d := ⟨_, rfl⟩
    rw [← es] at HS HI
    clear es h hb hd
    have HS := Lib.hid HS
    have HI := Lib.hid HI
    go_enter Tryd.func8, Tryd.ntmps8
    go_wp2_with (first
      | (go_at_call 29; refine (HS.out _).mono ?_; rintro e w1 ⟨rfl, hb⟩)
      | (go_at_call 16; refine (HI.out _ (HM.out.below hb) (HP.out.below hb)).mono ?_; rintro e w2 ⟨rfl, hb2⟩))
    go_ret
    exact ⟨rfl, by first | exact Below.next hb hb2 | go_grown⟩
end Go.Proofs.YtjjkbbcpihaphaaDoor
