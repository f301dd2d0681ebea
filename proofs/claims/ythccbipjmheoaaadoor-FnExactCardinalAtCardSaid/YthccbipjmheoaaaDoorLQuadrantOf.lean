/- The law of QuadrantOf. -/
import Derived.Test.YthccbipjmheoaaaDoorAng
import Derived.Test.YthccbipjmheoaaaDoorFogM
import Derived.Test.YthccbipjmheoaaaDoorKit
namespace Go.Proofs.YthccbipjmheoaaaDoor
open Go.ChangeShapes Go.WideShapes Go.ChangeAt Go.RowKit Pm

/-- The kind of the mark at a bearing. -/
def quadK (b : Int) : Int := if 315 ≤ b ∨ b < 45 then 3 else if b < 135 then 4 else if b < 225 then 5 else 6
theorem quad_is {b : Int} (h0 : 0 ≤ b) (h1 : b ≤ 359) : 3 + (ang (b + 45)).tdiv 90 = quadK b := by
  unfold ang quadK
  rw [Int.tdiv_eq_ediv_of_nonneg (by omega)]
  split
  · omega
  · split
    · omega
    · split <;> omega
theorem qwithin (z lo hi : Int) (b : Bool) (h : inB lo hi [z] = b) (w' : World) (n : Nat) (hn : w'.heap.size = n) : Calls Tryd.prog 38 #[.int .i64 lo, .int .i64 hi, .slice (some ⟨n, 0, none⟩) 1 1] (w'.alloc (.cells #[Value.int .i64 z] 2)) (fun e w'' => e = .returned (.bool b) ∧ (w'.alloc (.cells #[Value.int .i64 z] 2)) = w'') := by
  subst hn h
  exact within_any lo hi _ [z] _ (ints_one w' .i64 z 2)
theorem quadrant_yes (b : Int) (w : World) (h : inB 0 359 [b] = true) :
    Calls Tryd.prog 23 #[.int .i64 b] w fun e w' => e = .returned (.tuple #[.int .i64 (quadK b), .int .i64 0]) ∧ Below w.heap.size w w' := by
  have hb := inb_yes h
  have HW := Lib.hid (qwithin b 0 359 true h)
  have HA := Lib.hid (fun w => angle_any (b + 45) w)
  have hq := quad_is hb.1 hb.2
  have ha : 0 ≤ ang (b + 45) ∧ ang (b + 45) < 360 := by unfold ang; omega
  rw [Int.tdiv_eq_ediv_of_nonneg ha.1] at hq
  obtain ⟨a, ea⟩ : ∃ a, a = ang (b + 45) := ⟨_, rfl⟩
  rw [← ea] at HA hq ha
  have e1 : IntKind.i64.wrap (b + 45) = b + 45 := IntWalk.i64_in _ ⟨by omega, by omega⟩
  have e2 : IntKind.i64.wrap (3 + a / 90) = 3 + a / 90 := IntWalk.i64_in _ ⟨by omega, by omega⟩
  obtain ⟨a0, a1⟩ := ha
  rw [← hq]
  clear h ea hb hq
  go_enter Tryd.func23, Tryd.ntmps23
  go_wp2_with (first
    | (go_at_call 38; (refine (HW.out _ _ ?_).mono ?_); (· simp); rintro e w1 ⟨rfl, rfl⟩)
    | (go_at_call 39; refine (HA.out _).mono ?_; rintro e w2 ⟨rfl, rfl⟩))
  go_ret2
  exact ⟨rfl, by go_grown⟩
theorem quadrant_no (b : Int) (w : World) (h : inB 0 359 [b] = false) :
    Calls Tryd.prog 23 #[.int .i64 b] w fun e w' => e = .returned (.tuple #[.int .i64 0, .int .i64 2]) ∧ Below w.heap.size w w' := by
  have HW := Lib.hid (qwithin b 0 359 false h)
  clear h
  go_enter Tryd.func23, Tryd.ntmps23
  go_wp2_with (go_at_call 38; (refine (HW.out _ _ ?_).mono ?_); (· simp); rintro e w1 ⟨rfl, rfl⟩)
  go_ret2
  exact ⟨rfl, by go_grown⟩
theorem squad_any (b : Int) (w : World) :
    Calls Tryd.prog 56 #[.int .i64 b] w fun e w' => e = .returned (.int .i64 (quadK b)) ∧ w = w' := by
  unfold quadK
  by_cases h1 : 315 ≤ b
  · rw [if_pos (Or.inl h1)]
    go_enter Tryd.func56, Tryd.ntmps56
    go_wp2
    go_ret
    exact ⟨rfl, rfl⟩
  by_cases h2 : b < 45
  · rw [if_pos (Or.inr h2)]
    go_enter Tryd.func56, Tryd.ntmps56
    go_wp2
    go_ret
    exact ⟨rfl, rfl⟩
  rw [if_neg (by omega)]
  by_cases h3 : b < 135
  · rw [if_pos h3]
    go_enter Tryd.func56, Tryd.ntmps56
    go_wp2
    go_ret
    exact ⟨rfl, rfl⟩
  rw [if_neg h3]
  by_cases h4 : b < 225
  · rw [if_pos h4]
    go_enter Tryd.func56, Tryd.ntmps56
    go_wp2
    go_ret
    exact ⟨rfl, rfl⟩
  · rw [if_neg h4]
    go_enter Tryd.func56, Tryd.ntmps56
    go_wp2
    go_ret
    exact ⟨rfl, rfl⟩
theorem squadrant_any (b : Int) (w : World) :
    Calls Tryd.prog 35 #[.int .i64 b] w fun e w' => e = .returned (.tuple #[.int .i64 (if inB 0 359 [b] = true then quadK b else 0), .int .i64 (if inB 0 359 [b] = true then 0 else 2)]) ∧ w = w' := by
  have HI := fun w => in_any b 0 359 w
  cases h : inB 0 359 [b]
  · rw [h] at HI
    have HI := Lib.hid HI
    clear h
    simp only [Bool.false_eq_true, if_false]
    go_enter Tryd.func35, Tryd.ntmps35
    go_wp2_with (go_at_call 25; refine (HI.out _).mono ?_; rintro e w' ⟨rfl, rfl⟩)
    go_ret2
    exact ⟨rfl, rfl⟩
  · rw [h] at HI
    have HI := Lib.hid HI
    have HQ := Lib.hid (fun w => squad_any b w)
    clear h
    simp only [if_true]
    generalize quadK b = q at *
    go_enter Tryd.func35, Tryd.ntmps35
    go_wp2_with (first
      | (go_at_call 25; refine (HI.out _).mono ?_; rintro e w' ⟨rfl, rfl⟩)
      | (go_at_call 56; refine (HQ.out _).mono ?_; rintro e w' ⟨rfl, rfl⟩))
    go_ret2
    exact ⟨rfl, rfl⟩
end Go.Proofs.YthccbipjmheoaaaDoor
