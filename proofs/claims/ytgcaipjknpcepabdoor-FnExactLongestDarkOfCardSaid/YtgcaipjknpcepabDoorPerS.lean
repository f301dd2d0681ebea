/- The least period: the model's function. -/
import Derived.Test.YtgcaipjknpcepabDoorPer
namespace Go.Proofs.YtgcaipjknpcepabDoor
open Go.ChangeShapes Go.WideShapes Go.ChangeAt Go.RowKit Pm

/-- A row of bytes stands there. -/
def BytAt (w : World) (g : Nat) (l : List UInt8) : Prop := ∀ k (h : k < l.length), w.cell? ⟨g, k, none⟩ = some (.int .u8 (l[k].toNat : Int))
theorem BytAt.below {w w' : World} {g : Nat} {l : List UInt8} (h : BytAt w g l) (hb : Below w.heap.size w w') : BytAt w' g l := fun k hk => cell_below (h k hk) hb
theorem u8_eq (a b : UInt8) : ((a.toNat : Int) == (b.toNat : Int)) = (a == b) := by
  rw [Bool.eq_iff_iff]; simp only [beq_iff_eq, Int.ofNat_inj, UInt8.toNat_inj]
theorem per_next {l : List UInt8} {k : Nat} {w wr : World} (h1 : 1 ≤ k) (hk : k < l.length) (hno : ∀ m, 1 ≤ m → m < k → rotL l m ≠ l) (hne : rotL l k ≠ l) (hb : Below w.heap.size w wr) :
    (∃ k_1 : Nat, 1 ≤ k_1 ∧ k_1 ≤ l.length ∧ Value.int .i64 ((k : Int) + 1) = Value.int .i64 (k_1 : Int) ∧ (∀ m, 1 ≤ m → m < k_1 → rotL l m ≠ l) ∧ Below w.heap.size w wr) ∧
    l.length - (intOf (Value.int .i64 ((k : Int) + 1))).toNat < l.length - (intOf (Value.int .i64 (k : Int))).toNat := by
  refine ⟨⟨k + 1, by omega, by omega, rfl, fun m m1 m2 => ?_, hb⟩, ?_⟩
  · by_cases e : m = k
    · rw [e]; exact hne
    · exact hno m m1 (by omega)
  · show l.length - ((k : Int) + 1).toNat < l.length - ((k : Int)).toNat
    omega
set_option maxRecDepth 100000 in
set_option maxHeartbeats 2000000 in
theorem speriod_any (g cap : Nat) (l : List UInt8) (w : World) (hp : 1 ≤ l.length) (hq : l.length ≤ 600) (hc : BytAt w g l) :
    Calls Tryd.prog 54 #[.slice (some ⟨g, 0, none⟩) l.length cap] w fun e w' => e = .returned (.int .i64 (perL l)) ∧ Below w.heap.size w w' := by
  have HC := Lib.hid hc
  have HP := Lib.hid (perL_is l hp)
  clear hc
  go_enter Tryd.func54, Tryd.ntmps54
  go_wp2_with (fail)
  go_loopw [3] (fun i wr => ∃ (k : Nat), 1 ≤ k ∧ k ≤ l.length ∧ i = .int .i64 k ∧ (∀ m, 1 ≤ m → m < k → rotL l m ≠ l) ∧ Below w.heap.size w wr) (fun i _ => l.length - (intOf i).toNat)
  case atStart => exact ⟨1, Nat.le_refl _, hp, rfl, fun m _ _ => by omega, Below.refl _ _⟩
  case round =>
    obtain ⟨k, hk1, hk, rfl, hno, hbel⟩ := hrel
    have HN := Lib.hid hno
    have HB := Lib.hid hbel
    clear hno
    by_cases hlt : k < l.length
    · have hkn : (k : Int) < (l.length : Int) := by omega
      have hk0 : ¬ ((k : Int) == 0) = true := by simp; omega
      by_cases hd : l.length % k = 0
      · have hdt : ((l.length : Int).tmod (k : Int) != 0) = false := by
          rw [Int.tmod_eq_emod_of_nonneg (by omega)]; simp; omega
        have HT := Lib.hid (rot_test l k hk1 hk hd)
        clear hbel
        go_wp2_with (fail)
        go_loopw [4, 5] (fun s i wr => ∃ (q : Nat) (b : Bool), q + k ≤ l.length ∧ s = .bool b ∧ i = .int .i64 q ∧ (b = true → ∀ j, j < q → ever l j = ever l (j + k)) ∧ (b = false → ∃ j, j + k < l.length ∧ ever l j ≠ ever l (j + k)) ∧ Below w.heap.size w wr) (fun _ i _ => l.length - (intOf i).toNat)
        case atStart => exact ⟨0, true, by omega, rfl, rfl, fun _ j _ => by omega, (fun h => by cases h), HB.out⟩
        case round =>
          obtain ⟨q, b, hqk, rfl, rfl, ht, hf, hbel⟩ := hrel
          have HB1 := Lib.hid hbel
          by_cases hql : q + k < l.length
          · have hqi : (q : Int) + (k : Int) < (l.length : Int) := by omega
            cases b
            · have HF1 := Lib.hid (hf rfl)
              clear hbel ht hf
              go_wp2_with (fail)
              exact per_next hk1 hlt HN.out (fun e => by obtain ⟨j, hj, hne⟩ := HF1.out; exact hne (HT.out.1 e j hj)) HB1.out
            · have HT1 := Lib.hid (ht rfl)
              clear ht hf
              have c0 := cell_below (HC.out q (by omega)) hbel
              have c1 := cell_below (HC.out (q + k) hql) hbel
              have e0 := ever_lt l q (by omega)
              have e1 := ever_lt l (q + k) hql
              obtain ⟨x, hx⟩ : ∃ x, x = l[q] := ⟨_, rfl⟩
              obtain ⟨y, hy⟩ : ∃ y, y = l[q + k] := ⟨_, rfl⟩
              rw [← hx] at c0 e0
              rw [← hy] at c1 e1
              have HE0 := Lib.hid e0
              have HE1 := Lib.hid e1
              clear hx hy e0 e1 hbel
              go_wp2_with (fail)
              go_quiet (fail)
              go_wp2
              refine ⟨⟨q + 1, x == y, by omega, by rw [u8_eq], rfl, fun h j hj => ?_, fun h => ⟨q, hql, ?_⟩, below_drewN HB1.out _⟩, ?_⟩
              · by_cases e : j = q
                · rw [e, HE0.out, HE1.out]; exact eq_of_beq h
                · exact HT1.out j (by omega)
              · rw [HE0.out, HE1.out]
                intro e
                rw [e] at h
                simp at h
              · show l.length - ((q : Int) + 1).toNat < l.length - ((q : Int)).toNat
                omega
          · have hqi : ¬ (q : Int) + (k : Int) < (l.length : Int) := by omega
            clear hbel
            cases b
            · have HF1 := Lib.hid (hf rfl)
              clear ht hf
              go_wp2_with (fail)
              exact per_next hk1 hlt HN.out (fun e => by obtain ⟨j, hj, hne⟩ := HF1.out; exact hne (HT.out.1 e j hj)) HB1.out
            · have HT1 := Lib.hid (ht rfl)
              clear ht hf
              go_wp2_with (fail)
              go_ret
              exact ⟨ret_i (congrArg Nat.cast (IsPer.unique ⟨hk1, hk, HT.out.2 fun i hi => HT1.out i (by omega), HN.out⟩ HP.out)), HB1.out⟩
      · have hdt : ((l.length : Int).tmod (k : Int) != 0) = true := by
          rw [Int.tmod_eq_emod_of_nonneg (by omega)]; simp; omega
        have HT := Lib.hid (not_rot l k hk1 hk HN.out hd)
        clear hbel
        go_wp2_with (fail)
        exact per_next hk1 hlt HN.out HT.out HB.out
    · have hkn : ¬ (k : Int) < (l.length : Int) := by omega
      go_wp2
      go_ret
      have e : k = l.length := by omega
      subst e
      exact ⟨ret_i (congrArg Nat.cast (IsPer.unique ⟨hk1, hk, by unfold rotL; simp, HN.out⟩ HP.out)), HB.out⟩
end Go.Proofs.YtgcaipjknpcepabDoor
