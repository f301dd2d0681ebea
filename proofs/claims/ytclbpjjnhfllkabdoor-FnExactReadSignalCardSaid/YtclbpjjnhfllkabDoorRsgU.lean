/- Reading a signal: the model's function, whatever the arguments. -/
import Derived.Test.YtclbpjjnhfllkabDoorRsgT
import Derived.LoopTactic
namespace Go.Proofs.YtclbpjjnhfllkabDoor
open Go.ChangeShapes Go.WideShapes Go.ChangeAt Go.RowKit Pm

theorem sread_any (v : Value) (ps : List Ph) (u : Int) (w : World) (hl : ps.length ≤ 1048576) (hb : ∀ i, i < ps.length → -9223372036854775808 ≤ (ps.getD i ph0).2 ∧ (ps.getD i ph0).2 ≤ 9223372036854775807) (h : PhAre w v ps) :
    Calls Tryd.prog 12 #[v, .int .i64 u] w (SC (rdT ps u) (rdC ps u) w) := by
  have HUN := Lib.hid (fun w => sunitR_any u w)
  cases hu : inB 1 50 [u]
  · have hn : ¬ (1 ≤ u ∧ u ≤ 50) := fun h => by rw [inU.2 h] at hu; cases hu
    have H1 := Lib.hid (show rdT ps u = ⟨#[]⟩ by unfold rdT; rw [if_neg hn])
    have H2 := Lib.hid (show rdC ps u = 2 by unfold rdC; rw [if_neg hn])
    rw [hu] at HUN
    clear h hb hl hu hn
    go_enter Tryd.func12, Tryd.ntmps12
    go_wp2_with (go_at_call 32; refine (HUN.out _).mono ?_; rintro e w2 ⟨rfl, rfl⟩)
    go_ret2
    exact sc_is H1.out.symm H2.out.symm (Below.refl _ _)
  · have hn := inU.1 hu
    obtain ⟨a, c, rfl, h⟩ := h
    rcases Nat.eq_zero_or_pos ps.length with h0 | h0
    · obtain rfl := List.length_eq_zero_iff.1 h0
      have HF := Lib.hid (rd_no (ps := []) hn (txt_even rfl))
      rw [hu] at HUN
      clear h hb hl hu hn h0
      go_enter Tryd.func12, Tryd.ntmps12
      go_wp2_with (go_at_call 32; refine (HUN.out _).mono ?_; rintro e w2 ⟨rfl, rfl⟩)
      go_rounds 1
      go_rounds 1
      go_ret2
      exact sc_is HF.out.1.symm HF.out.2.symm (Below.refl _ _)
    · obtain ⟨b, off, rfl, hc⟩ := h.2.resolve_left (by intro e; rw [e] at h0; simp at h0)
      exact sread_row b off c ps u w hn hl hc hb
end Go.Proofs.YtclbpjjnhfllkabDoor
