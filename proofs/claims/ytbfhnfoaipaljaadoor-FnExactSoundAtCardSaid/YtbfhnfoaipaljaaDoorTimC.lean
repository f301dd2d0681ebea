/- The blast in which a time falls: the program's search. -/
import Derived.Test.YtbfhnfoaipaljaaDoorTimI
import Derived.LoopTactic
import Derived.Shelf.Abstract
namespace Go.Proofs.YtbfhnfoaipaljaaDoor
open Go.ChangeShapes Go.WideShapes Go.ChangeAt Go.RowKit Pm

theorem soundclos (z s : Int) (i b bz : Nat) (W : World) (hr : Row2 W b (blastF z i).1 (blastF z i).2) (cz : W.cell? ⟨bz, 0, none⟩ = some (.int .i64 s)) :
    Calls Tryd.prog 64 (#[rowV b] ++ #[.pointer (some ⟨bz, 0, none⟩)]) W fun e w' => e = .returned (.bool (hitB z s i)) ∧ Below W.heap.size W w' := by
  have r0 := hr.c0
  have r1 := hr.c1
  unfold hitB rowV
  generalize (blastF z i).1 = x at *
  generalize (blastF z i).2 = y at *
  have b0 : Below W.heap.size W W := Below.refl _ _
  clear hr
  by_cases h : x ≤ s
  all_goals
    first
      | (have hd : decide (x ≤ s) = true := decide_eq_true h)
      | (have hd : decide (x ≤ s) = false := decide_eq_false h)
    go_enter Tryd.func64, Tryd.ntmps64
    go_wp2
    obtain ⟨S, hcl, hS0, k0, k1, k2, k3, kB⟩ := clx4 r0 r1 cz cz b0
    have hne : Nonempty (Clx S) := ⟨⟨_, hS0⟩⟩
    clear r0 r1 cz b0
    refine wp_region_clx S (by kernel_rfl) (by kernel_rfl) hS0 ?_
    repeat (go_big_quiet_step (fail))
    refine wpQuiet_nil ?_
    intro _ hw'
    obtain ⟨p, rfl⟩ := hw'
    go_wp2_with (fail)
    go_ret
    exact ⟨retB (by simp [hd]), kB p⟩

set_option maxHeartbeats 1000000 in
theorem rowindex_any (z s : Int) (n g cap bz : Nat) (bs : Nat → Nat) (B : Nat) (W : World) (hr : Rows2 W B g bs n (blastF z)) (cz : W.cell? ⟨bz, 0, none⟩ = some (.int .i64 s)) (hn : n ≤ 6) :
    Calls Tryd.prog 93 #[.slice (some ⟨g, 0, none⟩) n cap, .func (.func 64) #[] #[.pointer (some ⟨bz, 0, none⟩)]] W fun e w' => ∃ r : Int, e = .returned (.int .i64 r) ∧ decide (0 ≤ r) = sndG z s n 0 ∧ Below W.heap.size W w' := by
  have eg : ∀ args w, (callFunc 64 args).run Tryd.prog w = .ok (.enter 64 args) w := enters_of Tryd.func64 (by kernel_rfl) rfl
  have R := Lib.hid hr
  clear hr
  go_enter Tryd.func93, Tryd.ntmps93
  go_wp2_with (fail)
  go_loopw [8] (fun i wr => ∃ j : Nat, j ≤ n ∧ i = .int .i64 j ∧ sndG z s n 0 = sndG z s (n - j) j ∧ Below W.heap.size W wr) (fun i _ => n - (intOf i).toNat)
  case atStart => exact ⟨0, Nat.zero_le _, rfl, rfl, Below.refl _ _⟩
  case round =>
    obtain ⟨j, hj, rfl, hs, hbel⟩ := hrel
    have HS := Lib.hid hs
    have HB := Lib.hid hbel
    clear hs
    by_cases hlt : j < n
    · have hkn : (j : Int) < (n : Int) := by omega
      have c0 := cell_below (R.out.cell j hlt) hbel
      have hv := (R.out.val j hlt).below hbel
      have HC := soundclos z s j (bs j) bz wr hv (cell_below cz hbel)
      have HST := Lib.hid (show sndG z s n 0 = (hitB z s j || sndG z s (n - (j + 1)) (j + 1)) by rw [HS.out, show n - j = n - (j + 1) + 1 by omega]; rfl)
      unfold rowV at HC
      generalize bs j = x at c0 HC
      clear hv hbel HS
      cases hh : hitB z s j
      · rw [hh] at HC
        have HN := Lib.hid (show sndG z s n 0 = sndG z s (n - (j + 1)) (j + 1) by rw [HST.out, hh]; rfl)
        have HC := Lib.hid HC
        clear hh HST
        go_wp2_with (go_at_fn 64; refine HC.out.mono ?_; rintro e w1 ⟨rfl, hb⟩; have HB2 := Lib.hid (Below.next HB.out hb); clear hb)
        go_roundw
        case rel => exact ⟨j + 1, by omega, by go_num, HN.out, HB2.out⟩
        case measure => simp [intOf]; omega
      · rw [hh] at HC
        have HN := Lib.hid (show decide (0 ≤ (j : Int)) = sndG z s n 0 by rw [HST.out, hh]; simp)
        have HC := Lib.hid HC
        clear hh HST
        go_wp2_with (go_at_fn 64; refine HC.out.mono ?_; rintro e w1 ⟨rfl, hb⟩; have HB2 := Lib.hid (Below.next HB.out hb); clear hb)
        go_ret
        exact ⟨_, rfl, HN.out, HB2.out⟩
    · obtain rfl : j = n := by omega
      have HN := Lib.hid (show decide (0 ≤ (-1 : Int)) = sndG z s j 0 by rw [HS.out, Nat.sub_self]; rfl)
      clear hbel
      go_wp2
      go_ret
      exact ⟨_, rfl, HN.out, HB.out⟩
theorem rowcontains_any (z s : Int) (n g cap bz : Nat) (bs : Nat → Nat) (B : Nat) (W : World) (hr : Rows2 W B g bs n (blastF z)) (cz : W.cell? ⟨bz, 0, none⟩ = some (.int .i64 s)) (hn : n ≤ 6) :
    Calls Tryd.prog 63 #[.slice (some ⟨g, 0, none⟩) n cap, .func (.func 64) #[] #[.pointer (some ⟨bz, 0, none⟩)]] W fun e w' => e = .returned (.bool (sndG z s n 0)) ∧ Below W.heap.size W w' := by
  have HI := Lib.hid (rowindex_any z s n g cap bz bs B W hr cz hn)
  generalize sndG z s n 0 = r at *
  clear hr cz
  go_enter Tryd.func63, Tryd.ntmps63
  go_wp2_with (go_at_call 93; refine HI.out.mono ?_; rintro e w1 ⟨i, rfl, hi, hb⟩; have HR := Lib.hid hi; clear hi)
  go_ret
  exact ⟨retB HR.out, hb⟩

end Go.Proofs.YtbfhnfoaipaljaaDoor
