/- The program's searches: the first number with a property, and the least one. -/
import Derived.Test.YtbfhnfoaipaljaaDoorCalI
import Derived.Test.YtbfhnfoaipaljaaDoorRngM
import Derived.Deep.RegionHeld3
namespace Go.Proofs.YtbfhnfoaipaljaaDoor
open Go.ChangeShapes Go.WideShapes Go.ChangeAt Go.RowKit Pm

/-- The first place of some with a property is returned. -/
def FirstAt (p : Int → Bool) (a : Int) (n : Nat) (w : World) (e : Ending) (w' : World) : Prop :=
  ∃ r : Nat, e = .returned (.int .i64 (a + r)) ∧ r ≤ n ∧ (∀ t : Nat, t < r → p (a + t) = false) ∧ (∀ t : Nat, r ≤ t → t < n → p (a + t) = true) ∧ Below w.heap.size w w'

theorem fclos_any (g : Nat) (caps : Array Value) (p : Int → Bool) (a : Int) (bh bf i : Nat) (W : World) (eg : ∀ args w, (callFunc g args).run Tryd.prog w = .ok (.enter g args) w) (a0 : 0 ≤ a) (a1 : a ≤ 1000000) (i1 : i ≤ 200000000)
    (hf : Calls Tryd.prog g (#[.int .i64 (a + i)] ++ caps) W fun e w' => e = .returned (.bool (p (a + i))) ∧ Below W.heap.size W w')
    (ch : W.cell? ⟨bh, 0, none⟩ = some (.func (.func g) #[] caps)) (cf : W.cell? ⟨bf, 0, none⟩ = some (.int .i64 a)) :
    Calls Tryd.prog 121 (#[.int .i64 i] ++ #[.pointer (some ⟨bh, 0, none⟩), .pointer (some ⟨bf, 0, none⟩)]) W fun e w' => e = .returned (.bool (p (a + i))) ∧ Below W.heap.size W w' := by
  have HC := Lib.hid hf
  generalize p (a + i) = b at HC ⊢
  clear hf
  go_enter Tryd.func121, Tryd.ntmps121
  go_wp2_with (go_at_fn g; refine HC.out.mono ?_; rintro e w1 ⟨rfl, hb⟩)
  go_ret
  exact ⟨rfl, hb⟩

set_option maxHeartbeats 1000000 in
theorem firstnum_any (g : Nat) (caps : Array Value) (p : Int → Bool) (a : Int) (n : Nat) (w : World) (eg : ∀ args w, (callFunc g args).run Tryd.prog w = .ok (.enter g args) w) (a0 : 0 ≤ a) (a1 : a ≤ 1000000) (n1 : n ≤ 200000000)
    (hf : ∀ (W : World) (i : Nat), i < n → Below w.heap.size w W → Calls Tryd.prog g (#[.int .i64 (a + i)] ++ caps) W fun e w' => e = .returned (.bool (p (a + i))) ∧ Below W.heap.size W w')
    (hm : ∀ x y : Nat, x ≤ y → y < n → p (a + x) = true → p (a + y) = true) :
    Calls Tryd.prog 106 #[.int .i64 a, .int .i64 (a + n), .func (.func g) #[] caps] w (FirstAt p a n w) := by
  have eh : ∀ args w, (callFunc 121 args).run Tryd.prog w = .ok (.enter 121 args) w := enters_of Tryd.func121 (by kernel_rfl) rfl
  have HSR := Lib.hid (show ∀ W, (W.cell? ⟨w.heap.size, 0, none⟩ = some (.int .i64 a) ∧ W.cell? ⟨w.heap.size + 1, 0, none⟩ = some (.func (.func g) #[] caps) ∧ Below w.heap.size w W) →
      Calls Tryd.prog 120 #[.int .i64 n, .func (.func 121) #[] #[.pointer (some ⟨w.heap.size + 1, 0, none⟩), .pointer (some ⟨w.heap.size, 0, none⟩)]] W (Found (fun i => p (a + (i : Int))) n W) from
    fun W ⟨q0, q1, q2⟩ => search_any 121 #[.pointer (some ⟨w.heap.size + 1, 0, none⟩), .pointer (some ⟨w.heap.size, 0, none⟩)] n (fun i => p (a + (i : Int))) W eh (by omega)
      (fun W2 i hi hb => fclos_any g caps p a (w.heap.size + 1) w.heap.size i W2 eg a0 a1 (by omega) (hf W2 i hi (Below.next q2 hb)) (cell_below q1 hb) (cell_below q0 hb)) hm)
  clear hm eg hf eh
  have e0 : IntKind.i64.wrap (a + n - a) = n := by rw [show a + (n : Int) - a = n by omega]; exact IntWalk.i64_in _ (by omega)
  go_enter Tryd.func106, Tryd.ntmps106
  go_wp2_with (fail)
  go_region_held3 (fun w' => w'.cell? ⟨w.heap.size, 0, none⟩ = some (.int .i64 a) ∧ w'.cell? ⟨w.heap.size + 1, 0, none⟩ = some (.func (.func g) #[] caps) ∧ Below w.heap.size w w')
    (first | assumption | exact keep2 (by assumption) (by assumption) | exact drew2 (by assumption) | exact ⟨by go_cell, by go_cell, by go_grown⟩)
    (first | (go_at_call 120; refine (HSR.out _ (by assumption)).mono ?_; rintro e w1 ⟨r, rfl, hr, h1, h2, hb⟩; have hrz : (r : Int) ≤ n := (by omega); have eR : IntKind.i64.wrap (a + (r : Int)) = a + r := IntWalk.i64_in _ (by omega); have H12 := Lib.hid (And.intro h1 h2); clear h1 h2))
  go_wp2
  go_ret
  exact ⟨r, rfl, hr, H12.out.1, H12.out.2, keepB2 (by assumption)⟩

theorem firstat_least {p : Int → Bool} {a : Int} {n r : Nat} (hr : r ≤ n) (h1 : ∀ t : Nat, t < r → p (a + t) = false) (h2 : ∀ t : Nat, r ≤ t → t < n → p (a + t) = true) : Least p a (a + n - 1) (a + r) := by
  refine ⟨by omega, by omega, fun t q1 q2 => ?_, fun t q1 q2 => ?_⟩
  · have := h1 (t - a).toNat (by omega)
    rw [show a + ((t - a).toNat : Int) = t by omega] at this
    exact this
  · have := h2 (t - a).toNat (by omega) (by omega)
    rw [show a + ((t - a).toNat : Int) = t by omega] at this
    exact this

set_option maxHeartbeats 1000000 in
theorem leastthat_any (g : Nat) (caps : Array Value) (p : Int → Bool) (L : Int) (n : Nat) (a c : Int) (w : World) (eg : ∀ args w, (callFunc g args).run Tryd.prog w = .ok (.enter g args) w) (a0 : 0 ≤ L) (a1 : L ≤ 1000000) (n1 : n ≤ 200000000)
    (hf : ∀ (W : World) (i : Nat), i < n → Below w.heap.size w W → Calls Tryd.prog g (#[.int .i64 (L + i)] ++ caps) W fun e w' => e = .returned (.bool (p (L + i))) ∧ Below W.heap.size W w')
    (hm : ∀ x y : Nat, x ≤ y → y < n → p (L + x) = true → p (L + y) = true) (hr : LeastIs p L (L + n - 1) a c) :
    Calls Tryd.prog 75 #[.int .i64 L, .int .i64 (L + n - 1), .func (.func g) #[] caps] w fun e w' => e = .returned (.tuple #[.int .i64 a, .int .i64 c]) ∧ Below w.heap.size w w' := by
  obtain ⟨r, hl, hr⟩ := hr
  have HF := Lib.hid (show Calls Tryd.prog 106 #[.int .i64 L, .int .i64 (L + n - 1 + 1), .func (.func g) #[] caps] w fun e w' => e = .returned (.int .i64 r) ∧ Below w.heap.size w w' from by
    rw [show L + (n : Int) - 1 + 1 = L + n by omega]
    refine (firstnum_any g caps p L n w eg a0 a1 n1 hf hm).mono ?_
    rintro e w1 ⟨q, rfl, hq, h1, h2, hb⟩
    exact ⟨ret_i ((firstat_least hq h1 h2).one hl), hb⟩)
  obtain ⟨l0, l1, _, _⟩ := hl
  obtain ⟨M, hM⟩ : ∃ M, M = L + (n : Int) - 1 := ⟨_, rfl⟩
  rw [← hM] at HF hr l1 ⊢
  have m0 : -1 ≤ M := by omega
  have m1 : M ≤ 201000000 := by omega
  clear hM eg hf hm n1
  rcases hr with ⟨k, rfl, rfl⟩ | ⟨k, rfl, rfl⟩
  · go_enter Tryd.func75, Tryd.ntmps75
    go_wp2_with (go_at_call 106; refine HF.out.mono ?_; rintro e w1 ⟨rfl, hb⟩)
    go_ret2
    exact ⟨rfl, hb⟩
  · go_enter Tryd.func75, Tryd.ntmps75
    go_wp2_with (go_at_call 106; refine HF.out.mono ?_; rintro e w1 ⟨rfl, hb⟩)
    go_ret2
    exact ⟨rfl, hb⟩
end Go.Proofs.YtbfhnfoaipaljaaDoor
