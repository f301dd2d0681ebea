/- The law of ArcOf. -/
import Derived.Test.YtclbpjjnhfllkaaSecW
import Derived.Test.YtclbpjjnhfllkaaSctA
namespace Go.Proofs.Ytclbpjjnhfllkaa
open Go.ChangeShapes Go.WideShapes Go.ChangeAt Go.RowKit Pm

theorem arcof_law (f t : Int) (s : ByteArray) (w0 : s.size ≤ maxLen) (w : World) :
    Calls Try.prog 6 #[.agg #[.int .i64 f, .int .i64 t, .string s]] w fun e w' => e = .returned (.bool true) ∧ Below w.heap.size w w' := by
  have HZ := Lib.hid (fun w => szsec_any f t s 1048576 w (by omega) (by omega) w0)
  clear w0
  have HT := Lib.hid (fun w => tosec_any f t s w)
  have HS := Lib.hid (fun w => sarcof_any f t s w)
  have HI := Lib.hid (fun w => arcof_any f t s w)
  obtain ⟨z, hz⟩ : ∃ z, z = arcS (f, t, s) := ⟨_, rfl⟩
  rw [← hz] at HS HI
  clear hz
  have HB0 := Lib.hid (show Below w.heap.size w (w.alloc (.cells #[.int .i64 f, .int .i64 t, .string s] 23)) from (Below.refl _ _).alloc (Nat.le_refl _) _)
  by_cases hl : (1048576 : Int) < (s.size : Int)
  · rw [if_pos hl] at HZ
    clear HS HI HT hl
    go_enter Try.func6, Try.ntmps6
    go_wp2_with (go_at_call 13; refine (HZ.out _).mono ?_; rintro e w1 ⟨rfl, hb⟩; have AC := Lib.hid (Below.next HB0.out hb); clear hb)
    go_ret
    exact ⟨rfl, AC.out⟩
  · rw [if_neg hl] at HZ
    have hn : ¬ (1048576 : Int) - (s.size : Int) < 0 := by omega
    clear hl
    go_enter Try.func6, Try.ntmps6
    go_wp2_with (go_at_call 13; refine (HZ.out _).mono ?_; rintro e w1 ⟨rfl, hb⟩; refine Hid.out ?_)
    refine Lib.hid ?_
    have AC := Lib.hid (Below.next HB0.out hb)
    have c0 : w1.cell? ⟨w.heap.size, 0, none⟩ = some (.int .i64 f) := cell_below (by simp) hb
    have c1 : w1.cell? ⟨w.heap.size, 1, none⟩ = some (.int .i64 t) := cell_below (by simp) hb
    have c2 : w1.cell? ⟨w.heap.size, 2, none⟩ = some (.string s) := cell_below (by simp) hb
    clear hb
    go_wp2_with (go_at_call 15; refine (HT.out _).mono ?_; rintro e w2 ⟨rfl, hb⟩; refine Hid.out ?_)
    refine Lib.hid ?_
    have AC := Lib.hid (Below.next AC.out hb)
    have c0 := cell_below c0 hb
    have c1 := cell_below c1 hb
    have c2 := cell_below c2 hb
    clear hb
    go_wp2_with (go_at_call 24; refine (HS.out _).mono ?_; rintro e w3 ⟨rfl, hb⟩; refine Hid.out ?_)
    refine Lib.hid ?_
    have AC := Lib.hid (Below.next AC.out hb)
    have c0 := cell_below c0 hb
    have c1 := cell_below c1 hb
    have c2 := cell_below c2 hb
    clear hb
    go_wp2_with (go_at_call 15; refine (HT.out _).mono ?_; rintro e w4 ⟨rfl, hb⟩; refine Hid.out ?_)
    refine Lib.hid ?_
    have AC := Lib.hid (Below.next AC.out hb)
    have c0 := cell_below c0 hb
    have c1 := cell_below c1 hb
    have c2 := cell_below c2 hb
    clear hb
    go_wp2_with (go_at_call 25; refine (HI.out _).mono ?_; rintro e w5 ⟨rfl, hb⟩; refine Hid.out ?_)
    refine Lib.hid ?_
    have AC := Lib.hid (Below.next AC.out hb)
    have c0 := cell_below c0 hb
    have c1 := cell_below c1 hb
    have c2 := cell_below c2 hb
    clear hb
    go_wp2
    go_ret
    exact ⟨rfl, AC.out⟩
end Go.Proofs.Ytclbpjjnhfllkaa
