/- The kind with a name: the program's. -/
import Derived.Test.YtbfhnfoaipaljaaDoorRdgI
import Derived.Deep.MidRow
namespace Go.Proofs.YtbfhnfoaipaljaaDoor
open Go.ChangeShapes Go.WideShapes Go.ChangeAt Go.RowKit Pm

/-- The table of fog signals as values. -/
def fogA : List Value := [.string (fogNm ((0 : Nat) : Int)), .int .i64 (fogLen ((0 : Nat) : Int)), .string (fogNm ((1 : Nat) : Int)), .int .i64 (fogLen ((1 : Nat) : Int)), .string (fogNm ((2 : Nat) : Int)), .int .i64 (fogLen ((2 : Nat) : Int)), .string (fogNm ((3 : Nat) : Int)), .int .i64 (fogLen ((3 : Nat) : Int)), .string (fogNm ((4 : Nat) : Int)), .int .i64 (fogLen ((4 : Nat) : Int))]
theorem fogA_range {w : World} (h : FogsAt w) : w.rangeAt 1 0 fogA := by
  intro j v hv
  have hj : j < 10 := (List.getElem?_eq_some_iff.1 hv).1
  rw [Nat.zero_add]
  have : j = 0 ∨ j = 1 ∨ j = 2 ∨ j = 3 ∨ j = 4 ∨ j = 5 ∨ j = 6 ∨ j = 7 ∨ j = 8 ∨ j = 9 := by omega
  rcases this with rfl | rfl | rfl | rfl | rfl | rfl | rfl | rfl | rfl | rfl
  · exact (h 0 (by omega)).1.trans hv
  · exact (h 0 (by omega)).2.trans hv
  · exact (h 1 (by omega)).1.trans hv
  · exact (h 1 (by omega)).2.trans hv
  · exact (h 2 (by omega)).1.trans hv
  · exact (h 2 (by omega)).2.trans hv
  · exact (h 3 (by omega)).1.trans hv
  · exact (h 3 (by omega)).2.trans hv
  · exact (h 4 (by omega)).1.trans hv
  · exact (h 4 (by omega)).2.trans hv
theorem index_fog (k : Nat) (hk : k < 5) (w : World) : (Instr.index 96 (.agg fogA.toArray) (.int .i64 (k : Int))).run Tryd.prog w = .ok (.agg #[.string (fogNm k), .int .i64 (fogLen k)]) w := by
  have : k = 0 ∨ k = 1 ∨ k = 2 ∨ k = 3 ∨ k = 4 := by omega
  rcases this with rfl | rfl | rfl | rfl | rfl
  · exact (show ∀ w, (Instr.index 96 (.agg fogA.toArray) (.int .i64 ((0 : Nat) : Int))).run Tryd.prog w = .ok (.agg #[.string (fogNm ((0 : Nat) : Int)), .int .i64 (fogLen ((0 : Nat) : Int))]) w from fun _ => by kernel_rfl) w
  · exact (show ∀ w, (Instr.index 96 (.agg fogA.toArray) (.int .i64 ((1 : Nat) : Int))).run Tryd.prog w = .ok (.agg #[.string (fogNm ((1 : Nat) : Int)), .int .i64 (fogLen ((1 : Nat) : Int))]) w from fun _ => by kernel_rfl) w
  · exact (show ∀ w, (Instr.index 96 (.agg fogA.toArray) (.int .i64 ((2 : Nat) : Int))).run Tryd.prog w = .ok (.agg #[.string (fogNm ((2 : Nat) : Int)), .int .i64 (fogLen ((2 : Nat) : Int))]) w from fun _ => by kernel_rfl) w
  · exact (show ∀ w, (Instr.index 96 (.agg fogA.toArray) (.int .i64 ((3 : Nat) : Int))).run Tryd.prog w = .ok (.agg #[.string (fogNm ((3 : Nat) : Int)), .int .i64 (fogLen ((3 : Nat) : Int))]) w from fun _ => by kernel_rfl) w
  · exact (show ∀ w, (Instr.index 96 (.agg fogA.toArray) (.int .i64 ((4 : Nat) : Int))).run Tryd.prog w = .ok (.agg #[.string (fogNm ((4 : Nat) : Int)), .int .i64 (fogLen ((4 : Nat) : Int))]) w from fun _ => by kernel_rfl) w
theorem kindOf_at {s : ByteArray} {k : Nat} (hk : k < 5) (h : fogNm k = s) : kindOf s = k := by
  subst h
  have : k = 0 ∨ k = 1 ∨ k = 2 ∨ k = 3 ∨ k = 4 := by omega
  rcases this with rfl | rfl | rfl | rfl | rfl <;> decide
theorem kindOf_none {s : ByteArray} (h : ∀ r : Nat, r < 5 → fogNm r ≠ s) : kindOf s = 0 := by
  unfold kindOf
  rw [if_neg (fun e => h 1 (by omega) e.symm), if_neg (fun e => h 2 (by omega) e.symm), if_neg (fun e => h 3 (by omega) e.symm), if_neg (fun e => h 4 (by omega) e.symm)]
theorem retI {a b : Int} (h : a = b) : Ending.returned (.int .i64 a) = .returned (.int .i64 b) := by rw [h]
set_option maxRecDepth 100000 in
set_option maxHeartbeats 1000000 in
theorem kindof_any (s : ByteArray) (w : World) (hF : FogsAt w) :
    Calls Tryd.prog 87 #[.string s] w fun e w' => e = .returned (.int .i64 (kindOf s)) ∧ Below w.heap.size w w' := by
  have HR := Lib.hid (fogA_range hF)
  clear hF
  have HX := Lib.hid (fun k h w => index_fog k h w)
  go_enter Tryd.func87, Tryd.ntmps87
  go_wp2_with (refine wpList_load_mid rfl 96 _ rfl 1 0 rfl fogA _ HR.out Tryd.underlying96 rfl (by kernel_rfl) ?_)
  obtain ⟨A, hA⟩ : ∃ A, A = fogA.toArray := ⟨_, rfl⟩
  rw [← hA] at HX ⊢
  clear hA HR
  go_loopw [6] (fun i wr => ∃ k : Nat, k ≤ 5 ∧ i = .int .i64 k ∧ (∀ r : Nat, r < k → fogNm r ≠ s) ∧ Below w.heap.size w wr) (fun i _ => 5 - (intOf i).toNat)
  case atStart => exact ⟨0, Nat.zero_le _, rfl, fun r h => absurd h (Nat.not_lt_zero r), Below.refl _ _⟩
  case round =>
    obtain ⟨k, hk, rfl, hno, hbel⟩ := hrel
    have HB := Lib.hid hbel
    have HN := Lib.hid hno
    clear hbel hno
    by_cases hlt : k < 5
    · have hk5 : (k : Int) < 5 := by omega
      have hidx := fun w => HX.out k hlt w
      have HK := Lib.hid (fun e => kindOf_at (s := s) hlt e)
      obtain ⟨nm, hnm⟩ : ∃ x, x = fogNm k := ⟨_, rfl⟩
      have HNM := Lib.hid hnm
      rw [← hnm] at hidx HK
      generalize fogLen k = ln at *
      clear hnm
      by_cases he : nm = s
      · obtain ⟨t1, t2⟩ := str_eq he
        have HV := Lib.hid (HK.out he)
        clear he
        go_wp2
        go_ret
        exact ⟨retI HV.out.symm, HB.out.alloc HB.out.size _⟩
      · obtain ⟨t1, t2⟩ := str_ne he
        have HV := Lib.hid he
        clear he
        go_wp2
        go_roundw
        case rel => exact ⟨k + 1, by omega, by go_num, fun r hr => by
          by_cases e : r < k
          · exact HN.out r e
          · obtain rfl : r = k := by omega
            rw [← HNM.out]; exact HV.out, HB.out.alloc HB.out.size _⟩
        case measure => simp [intOf]; omega
    · obtain rfl : k = 5 := by omega
      have HV := Lib.hid (kindOf_none HN.out)
      go_wp2
      go_ret
      exact ⟨retI HV.out.symm, HB.out⟩
end Go.Proofs.YtbfhnfoaipaljaaDoor
