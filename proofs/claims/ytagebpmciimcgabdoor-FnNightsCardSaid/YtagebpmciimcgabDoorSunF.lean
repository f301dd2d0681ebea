/- The program's first minute of daylight and the first one behind it. -/
import Derived.Test.YtagebpmciimcgabDoorSunQ
namespace Go.Proofs.YtagebpmciimcgabDoor
open Go.ChangeShapes Go.WideShapes Go.ChangeAt Go.RowKit Pm

/-- The method's value, bound to a way of the sun. -/
def litV (mid sw : Int) : Value := .func (.func 86) #[.agg #[.int .i64 mid, .int .i64 sw]] #[]
/-- The closure's value, over the variable that holds the way. -/
def darkV (pb : Nat) : Value := .func (.func 88) #[] #[.pointer (some ⟨pb, 0, none⟩)]

theorem fclosA (mid sw a : Int) (bh bf i : Nat) (W : World) (hS : SinesAt W) (a0 : -1000000 ≤ mid) (a1 : mid ≤ 1000000) (s0 : -1000000 ≤ sw) (s1 : sw ≤ 1000000) (m0 : 0 ≤ a) (m1 : a + i ≤ 1440)
    (ch : W.cell? ⟨bh, 0, none⟩ = some (litV mid sw)) (cf : W.cell? ⟨bf, 0, none⟩ = some (.int .i64 a)) :
    Calls Tryd.prog 110 (#[.int .i64 i] ++ #[.pointer (some ⟨bh, 0, none⟩), .pointer (some ⟨bf, 0, none⟩)]) W fun e w' => e = .returned (.bool (litB mid sw (a + i))) ∧ Below W.heap.size W w' := by
  have HC := fun w hS => islight_any mid sw (a + i) w hS a0 a1 s0 s1 (by omega) m1
  obtain ⟨b, eb⟩ : ∃ b, b = litB mid sw (a + i) := ⟨_, rfl⟩
  rw [← eb] at HC ⊢
  have HC := Lib.hid HC
  have HS := Lib.hid hS
  unfold litV at ch
  clear eb hS
  go_enter Tryd.func110, Tryd.ntmps110
  go_wp2_with (first
    | (go_at_call 86; refine (HC.out _ HS.out).mono ?_; rintro e w1 ⟨rfl, hb⟩))
  go_ret
  exact ⟨rfl, hb⟩

theorem dclos (mid sw mn : Int) (pb : Nat) (W : World) (hS : SinesAt W) (a0 : -1000000 ≤ mid) (a1 : mid ≤ 1000000) (s0 : -1000000 ≤ sw) (s1 : sw ≤ 1000000) (m0 : 0 ≤ mn) (m1 : mn ≤ 1440)
    (c0 : W.cell? ⟨pb, 0, none⟩ = some (.int .i64 mid)) (c1 : W.cell? ⟨pb, 1, none⟩ = some (.int .i64 sw)) :
    Calls Tryd.prog 88 #[.int .i64 mn, .pointer (some ⟨pb, 0, none⟩)] W fun e w' => e = .returned (.bool (!litB mid sw mn)) ∧ Below W.heap.size W w' := by
  have HC := fun w hS => islight_any mid sw mn w hS a0 a1 s0 s1 m0 m1
  obtain ⟨b, eb⟩ : ∃ b, b = litB mid sw mn := ⟨_, rfl⟩
  rw [← eb] at HC ⊢
  have HC := Lib.hid HC
  have HS := Lib.hid hS
  clear eb hS
  go_enter Tryd.func88, Tryd.ntmps88
  go_wp2_with (first
    | (go_at_call 86; refine (HC.out _ HS.out).mono ?_; rintro e w1 ⟨rfl, hb⟩))
  go_ret
  exact ⟨rfl, hb⟩

theorem fclosB (mid sw a : Int) (pb bh bf i : Nat) (W : World) (hS : SinesAt W) (a0 : -1000000 ≤ mid) (a1 : mid ≤ 1000000) (s0 : -1000000 ≤ sw) (s1 : sw ≤ 1000000) (m0 : 0 ≤ a) (m1 : a + i ≤ 1440)
    (ch : W.cell? ⟨bh, 0, none⟩ = some (darkV pb)) (cf : W.cell? ⟨bf, 0, none⟩ = some (.int .i64 a))
    (c0 : W.cell? ⟨pb, 0, none⟩ = some (.int .i64 mid)) (c1 : W.cell? ⟨pb, 1, none⟩ = some (.int .i64 sw)) :
    Calls Tryd.prog 110 (#[.int .i64 i] ++ #[.pointer (some ⟨bh, 0, none⟩), .pointer (some ⟨bf, 0, none⟩)]) W fun e w' => e = .returned (.bool (!litB mid sw (a + i))) ∧ Below W.heap.size W w' := by
  have HC := dclos mid sw (a + i) pb W hS a0 a1 s0 s1 (by omega) m1 c0 c1
  obtain ⟨b, eb⟩ : ∃ b, b = litB mid sw (a + i) := ⟨_, rfl⟩
  rw [← eb] at HC ⊢
  have HC := Lib.hid HC
  unfold darkV at ch
  clear eb hS
  go_enter Tryd.func110, Tryd.ntmps110
  go_wp2_with (first
    | (go_at_call 88; refine HC.out.mono ?_; rintro e w1 ⟨rfl, hb⟩))
  go_ret
  exact ⟨rfl, hb⟩

/-- The first place of some with a property is returned. -/
def FirstRet (p : Int → Bool) (a : Int) (n : Nat) (w : World) (e : Ending) (w' : World) : Prop :=
  ∃ r : Nat, e = .returned (.int .i64 (a + r)) ∧ r ≤ n ∧ (∀ t : Nat, t < r → p (a + t) = false) ∧ (∀ t : Nat, r ≤ t → t < n → p (a + t) = true) ∧ Below w.heap.size w w'

set_option maxHeartbeats 1000000 in
theorem firstA (mid sw : Int) (w : World) (hS : SinesAt w) (a0 : -1000000 ≤ mid) (a1 : mid ≤ 1000000) (s0 : -1000000 ≤ sw) (s1 : sw ≤ 1000000)
    (hm : ∀ x y : Nat, x ≤ y → y < 720 → litB mid sw (0 + x) = true → litB mid sw (0 + y) = true) :
    Calls Tryd.prog 87 #[.int .i64 0, .int .i64 720, litV mid sw] w (FirstRet (litB mid sw) 0 720 w) := by
  have eg : ∀ args w, (callFunc 110 args).run Tryd.prog w = .ok (.enter 110 args) w := enters_of Tryd.func110 (by kernel_rfl) rfl
  have HSR := Lib.hid (show ∀ W, (W.cell? ⟨w.heap.size, 0, none⟩ = some (.int .i64 0) ∧ W.cell? ⟨w.heap.size + 1, 0, none⟩ = some (litV mid sw) ∧ Below w.heap.size w W) →
      Calls Tryd.prog 109 #[.int .i64 720, .func (.func 110) #[] #[.pointer (some ⟨w.heap.size + 1, 0, none⟩), .pointer (some ⟨w.heap.size, 0, none⟩)]] W (Found (fun i => litB mid sw (0 + (i : Int))) 720 W) from
    fun W ⟨q0, q1, q2⟩ => search_any 110 #[.pointer (some ⟨w.heap.size + 1, 0, none⟩), .pointer (some ⟨w.heap.size, 0, none⟩)] 720 (fun i => litB mid sw (0 + (i : Int))) W eg (by omega)
      (fun W2 i hi hb => fclosA mid sw 0 (w.heap.size + 1) w.heap.size i W2 ((hS.below q2).below hb) a0 a1 s0 s1 (by omega) (by omega) (cell_below q1 hb) (cell_below q0 hb)) hm)
  clear hS hm eg
  obtain ⟨p, ep⟩ : ∃ p, p = litB mid sw := ⟨_, rfl⟩
  rw [← ep] at HSR ⊢
  clear ep
  have e0 : IntKind.i64.wrap (720 - 0) = 720 := IntWalk.i64_in _ (by omega)
  go_enter Tryd.func87, Tryd.ntmps87
  go_wp2_with (fail)
  go_region_held3 (fun w' => w'.cell? ⟨w.heap.size, 0, none⟩ = some (.int .i64 0) ∧ w'.cell? ⟨w.heap.size + 1, 0, none⟩ = some (litV mid sw) ∧ Below w.heap.size w w')
    (first | assumption | exact keep2 (by assumption) (by assumption) | exact drew2 (by assumption) | exact ⟨by go_cell, by go_cell, by go_grown⟩)
    (first | (go_at_call 109; refine (HSR.out _ (by assumption)).mono ?_; rintro e w1 ⟨r, rfl, hr, h1, h2, hb⟩; have hrz : (r : Int) ≤ 720 := (by omega); have eR : IntKind.i64.wrap (r : Int) = r := IntWalk.i64_in _ (by omega); have H12 := Lib.hid (And.intro h1 h2); clear h1 h2))
  go_wp2
  go_ret
  exact ⟨r, ret_i (by omega), hr, H12.out.1, H12.out.2, keepB2 (by assumption)⟩

set_option maxHeartbeats 1000000 in
theorem firstB (mid sw : Int) (pb : Nat) (w : World) (hS : SinesAt w) (a0 : -1000000 ≤ mid) (a1 : mid ≤ 1000000) (s0 : -1000000 ≤ sw) (s1 : sw ≤ 1000000)
    (c0 : w.cell? ⟨pb, 0, none⟩ = some (.int .i64 mid)) (c1 : w.cell? ⟨pb, 1, none⟩ = some (.int .i64 sw))
    (hm : ∀ x y : Nat, x ≤ y → y < 720 → (!litB mid sw (720 + x)) = true → (!litB mid sw (720 + y)) = true) :
    Calls Tryd.prog 87 #[.int .i64 720, .int .i64 1440, darkV pb] w (FirstRet (fun t => !litB mid sw t) 720 720 w) := by
  have eg : ∀ args w, (callFunc 110 args).run Tryd.prog w = .ok (.enter 110 args) w := enters_of Tryd.func110 (by kernel_rfl) rfl
  have HSR := Lib.hid (show ∀ W, (W.cell? ⟨w.heap.size, 0, none⟩ = some (.int .i64 720) ∧ W.cell? ⟨w.heap.size + 1, 0, none⟩ = some (darkV pb) ∧ Below w.heap.size w W) →
      Calls Tryd.prog 109 #[.int .i64 720, .func (.func 110) #[] #[.pointer (some ⟨w.heap.size + 1, 0, none⟩), .pointer (some ⟨w.heap.size, 0, none⟩)]] W (Found (fun i => !litB mid sw (720 + (i : Int))) 720 W) from
    fun W ⟨q0, q1, q2⟩ => search_any 110 #[.pointer (some ⟨w.heap.size + 1, 0, none⟩), .pointer (some ⟨w.heap.size, 0, none⟩)] 720 (fun i => !litB mid sw (720 + (i : Int))) W eg (by omega)
      (fun W2 i hi hb => fclosB mid sw 720 pb (w.heap.size + 1) w.heap.size i W2 ((hS.below q2).below hb) a0 a1 s0 s1 (by omega) (by omega) (cell_below q1 hb) (cell_below q0 hb) (cell_below (cell_below c0 q2) hb) (cell_below (cell_below c1 q2) hb)) hm)
  clear hS hm eg c0 c1
  obtain ⟨p, ep⟩ : ∃ p, p = (fun t => !litB mid sw t) := ⟨_, rfl⟩
  have HSR := Lib.hid (show ∀ W, (W.cell? ⟨w.heap.size, 0, none⟩ = some (.int .i64 720) ∧ W.cell? ⟨w.heap.size + 1, 0, none⟩ = some (darkV pb) ∧ Below w.heap.size w W) →
      Calls Tryd.prog 109 #[.int .i64 720, .func (.func 110) #[] #[.pointer (some ⟨w.heap.size + 1, 0, none⟩), .pointer (some ⟨w.heap.size, 0, none⟩)]] W (Found (fun i => p (720 + (i : Int))) 720 W) from by rw [ep]; exact HSR.out)
  rw [← ep]
  clear ep
  have e0 : IntKind.i64.wrap (1440 - 720) = 720 := IntWalk.i64_in _ (by omega)
  go_enter Tryd.func87, Tryd.ntmps87
  go_wp2_with (fail)
  go_region_held3 (fun w' => w'.cell? ⟨w.heap.size, 0, none⟩ = some (.int .i64 720) ∧ w'.cell? ⟨w.heap.size + 1, 0, none⟩ = some (darkV pb) ∧ Below w.heap.size w w')
    (first | assumption | exact keep2 (by assumption) (by assumption) | exact drew2 (by assumption) | exact ⟨by go_cell, by go_cell, by go_grown⟩)
    (first | (go_at_call 109; refine (HSR.out _ (by assumption)).mono ?_; rintro e w1 ⟨r, rfl, hr, h1, h2, hb⟩; have hrz : (r : Int) ≤ 720 := (by omega); have eR : IntKind.i64.wrap (720 + (r : Int)) = 720 + r := IntWalk.i64_in _ (by omega); have H12 := Lib.hid (And.intro h1 h2); clear h1 h2))
  go_wp2
  go_ret
  exact ⟨r, rfl, hr, H12.out.1, H12.out.2, keepB2 (by assumption)⟩
end Go.Proofs.YtagebpmciimcgabDoor
