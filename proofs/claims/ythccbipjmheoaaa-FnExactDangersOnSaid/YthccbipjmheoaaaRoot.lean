/- The contract of the model's root. -/
import Derived.Test.YthccbipjmheoaaaRootI
namespace Go.Proofs.Ythccbipjmheoaaa
open Go.ChangeShapes Go.WideShapes Go.ChangeAt Go.RowKit Pm

theorem sroot_any (n : Int) (w : World) (hn : n ≤ 9223372036854775807) :
    Calls Try.prog 97 #[.int .i64 n] w (RootRet n w) := by
  have HN := Lib.hid hn; clear hn
  go_enter Try.func97, Try.ntmps97
  go_wp2
  go_loop [3, 4] (fun l h => ∃ lo hi : Int, l = .int .i64 lo ∧ h = .int .i64 hi ∧ 0 ≤ lo ∧ lo ≤ hi ∧ hi ≤ 3037000499 ∧ (lo = 0 ∨ lo * lo ≤ n) ∧ n < (hi + 1) * (hi + 1)) (fun l h => (intOf h - intOf l).toNat)
  case atStart => exact ⟨0, 3037000499, rfl, rfl, by omega, by omega, by omega, .inl rfl, by have := HN.out; omega⟩
  case round =>
    obtain ⟨lo, hi, rfl, rfl, h0, h1, h2, h3, h4⟩ := hrel
    have H3 := Lib.hid h3; clear h3
    have H4 := Lib.hid h4; clear h4
    by_cases hlt : lo < hi
    · have hm : ∃ m, (lo + hi + 1) / 2 = m := ⟨_, rfl⟩
      obtain ⟨m, hm⟩ := hm
      have m1 : lo < m := by omega
      have m2 : m ≤ hi := by omega
      have hw := wrap_sq m (by omega) (by omega)
      by_cases hc : m * m ≤ n
      · go_wp2
        refine ⟨⟨m, hi, ret_v (by omega), rfl, by omega, by omega, by omega, .inr hc, H4.out⟩, ?_⟩
        simp only [intOf]; omega
      · go_wp2
        refine ⟨⟨lo, m - 1, rfl, ret_v (by omega), by omega, by omega, by omega, H3.out, by rw [show m - 1 + 1 = m by omega]; omega⟩, ?_⟩
        simp only [intOf]; omega
    · go_wp2
      go_ret
      refine ⟨lo, ⟨h0, by omega, fun hneg => ?_, fun hpos => ⟨?_, ?_⟩⟩, rfl, rfl⟩
      · rcases H3.out with e | e
        · exact e
        · have := Int.mul_nonneg h0 h0; omega
      · rcases H3.out with e | e
        · subst e; simpa using hpos
        · exact e
      · have := H4.out; rw [show hi = lo by omega] at this; exact this


end Go.Proofs.Ythccbipjmheoaaa
