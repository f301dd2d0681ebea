/- The law of DarkSum. -/
import Derived.Test.YtagebpmciimcgabDoorDrkT
import Derived.Test.YtagebpmciimcgabDoorDrkL
namespace Go.Proofs.YtagebpmciimcgabDoor
open Go.ChangeShapes Go.WideShapes Go.ChangeAt Go.RowKit Pm

theorem season_f (lat a : Int) : ∃ f : Nat → Int, (0 ≤ a → ∀ i : Nat, DarkIs lat (a + i) (f i)) ∧ ∀ i, 0 ≤ f i ∧ f i ≤ 1440 := by
  by_cases h : 0 ≤ a
  · obtain ⟨f, hf⟩ := darks_ex (lat := lat) h
    exact ⟨f, fun _ => hf, fun i => (hf i).bd⟩
  · exact ⟨fun _ => 0, fun h2 => absurd h2 h, fun _ => ⟨(by show (0 : Int) ≤ 0; omega), (by show (0 : Int) ≤ 1440; omega)⟩⟩

theorem darksum_law (lat a c : Int) (wa : (Lit.int .i64 a).wf = true) (w : World) (hL : laidMetH Tryd.prog Rows.fnExactDarkSumRow.laid w) :
    Calls Tryd.prog 9 #[.int .i64 lat, .int .i64 a, .int .i64 c] w fun e w' => e = .returned (.bool true) ∧ Below w.heap.size w w' := by
  have HT := Lib.hid (sines_of hL)
  obtain ⟨a0, a1⟩ := bounds_i64 wa
  clear hL wa
  obtain ⟨f, hf, hfb⟩ := season_f lat a
  have HI := fun w hS => impl_sum lat a c f w hS hf hfb a0 a1
  have HS : ∀ w, Calls Tryd.prog 34 #[.int .i64 lat, .int .i64 a, .int .i64 c] w (RetS2 (sumV lat a c f).1 (sumV lat a c f).2 w) := fun w => by
    cases hs : seasonB lat a c
    · rw [show sumV lat a c f = (0, 2) by unfold sumV; rw [hs]; rfl]
      exact ssum_no lat a c w hs
    · have he := season_iff.1 hs
      obtain ⟨n, rfl⟩ := Int.eq_ofNat_of_zero_le (show 0 ≤ c by omega)
      rw [show sumV lat a n f = (sumTo f n, 0) by unfold sumV; rw [hs]; rfl]
      exact ssum_yes lat a n f w (hf he.2.1.1) hs
  obtain ⟨p, hp⟩ : ∃ p : Int × Int, p = sumV lat a c f := ⟨_, rfl⟩
  rw [← hp] at HS HI
  clear hp hf hfb
  obtain ⟨x, y⟩ := p
  have HS := Lib.hid (show ∀ w, Calls Tryd.prog 34 #[.int .i64 lat, .int .i64 a, .int .i64 c] w (RetS2 x y w) from HS)
  have HI := Lib.hid (show ∀ w, SinesAt w → Calls Tryd.prog 28 #[.int .i64 lat, .int .i64 a, .int .i64 c] w (Ret2 x y w) from HI)
  go_enter Tryd.func9, Tryd.ntmps9
  go_wp2_with (first
    | (go_at_call 34; refine (HS.out _).mono ?_; rintro e w1 ⟨rfl, hb⟩)
    | (go_at_call 28; refine (HI.out _ (HT.out.below hb)).mono ?_; rintro e w2 ⟨rfl, hb2⟩))
  go_ret
  exact ⟨rfl, Below.next hb hb2⟩

theorem longestdark_law (lat a c : Int) (wa : (Lit.int .i64 a).wf = true) (w : World) (hL : laidMetH Tryd.prog Rows.fnExactLongestDarkRow.laid w) :
    Calls Tryd.prog 8 #[.int .i64 lat, .int .i64 a, .int .i64 c] w fun e w' => e = .returned (.bool true) ∧ Below w.heap.size w w' := by
  have HT := Lib.hid (sines_of hL)
  obtain ⟨a0, a1⟩ := bounds_i64 wa
  clear hL wa
  obtain ⟨f, hf, hfb⟩ := season_f lat a
  cases hs : seasonB lat a c
  · have HS := Lib.hid (fun w => slong_no lat a c w hs)
    have HI := Lib.hid (fun w hS => impl_long_no lat a c f w hS hf hfb a0 a1 hs)
    clear hf hfb hs
    go_enter Tryd.func8, Tryd.ntmps8
    go_wp2_with (first
      | (go_at_call 33; refine (HS.out _).mono ?_; rintro e w1 ⟨rfl, hb⟩)
      | (go_at_call 29; refine (HI.out _ (HT.out.below hb)).mono ?_; rintro e w2 ⟨rfl, hb2⟩))
    go_ret
    exact ⟨rfl, Below.next hb hb2⟩
  · have he := season_iff.1 hs
    obtain ⟨n, rfl⟩ := Int.eq_ofNat_of_zero_le (show 0 ≤ c by omega)
    have HS := Lib.hid (fun w => slong_yes lat a n f w (hf he.2.1.1) hs)
    have HI := Lib.hid (fun w hS => impl_long_yes lat a n f w hS hf hfb a0 a1 hs)
    clear hf hfb hs he
    go_enter Tryd.func8, Tryd.ntmps8
    go_wp2_with (first
      | (go_at_call 33; refine (HS.out _).mono ?_; rintro e w1 ⟨d, m, hbest, rfl, hb⟩; have HBE := Lib.hid hbest; clear hbest)
      | (go_at_call 29; refine (HI.out _ (HT.out.below hb)).mono ?_; rintro e w2 ⟨d2, m2, hbest, rfl, hb2⟩; obtain ⟨rfl, rfl⟩ := hbest.one HBE.out; clear hbest))
    go_ret
    exact ⟨rfl, Below.next hb hb2⟩
end Go.Proofs.YtagebpmciimcgabDoor
