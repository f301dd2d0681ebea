/- The least rotation: the model's function. -/
import Derived.Test.YtgcaipjknpcepabDoorNorM
import Derived.Test.YtgcaipjknpcepabDoorPeri
namespace Go.Proofs.YtgcaipjknpcepabDoor
open Go.ChangeShapes Go.WideShapes Go.ChangeAt Go.RowKit Pm

theorem rot_diff (l : List UInt8) (i b k : Nat) (hi : i < l.length) (hb : b < l.length) (hk : k < l.length) (he : ∀ j, j < k → ever l (i + j) = ever l (b + j)) (hd : (ever l (i + k)).toNat < (ever l (b + k)).toNat) :
    numB (rotL l i) < numB (rotL l b) := by
  refine numB_diff _ _ k (by rw [rotL_len]; exact hk) (by rw [rotL_len]; exact hk) (by rw [rotL_len, rotL_len]) (fun j g1 g2 hj => ?_) ?_
  · rw [rotL_len] at g1
    rw [rot_get l i j (by omega) g1, rot_get l b j (by omega) g1, Nat.add_comm j i, Nat.add_comm j b]
    exact he j hj
  · rw [rot_get l i k (by omega) hk, rot_get l b k (by omega) hk, Nat.add_comm k i, Nat.add_comm k b]
    exact hd
theorem rot_same (l : List UInt8) (i b : Nat) (hi : i < l.length) (hb : b < l.length) (he : ∀ j, j < l.length → ever l (i + j) = ever l (b + j)) : rotL l i = rotL l b := by
  refine List.ext_getElem (by rw [rotL_len, rotL_len]) fun j h1 h2 => ?_
  rw [rotL_len] at h1
  rw [rot_get l i j (by omega) h1, rot_get l b j (by omega) h1, Nat.add_comm j i, Nat.add_comm j b]
  exact he j h1
/-- What the model knows behind some places. -/
structure BestOf (l : List UInt8) (i b : Nat) : Prop where
  lt : b < l.length
  least : ∀ m, m < i → numB (rotL l b) ≤ numB (rotL l m)
theorem BestOf.keep {l : List UInt8} {i b : Nat} (h : BestOf l i b) (hn : numB (rotL l b) ≤ numB (rotL l i)) : BestOf l (i + 1) b :=
  ⟨h.lt, fun m hm => by
    by_cases e : m = i
    · rw [e]; exact hn
    · exact h.least m (by omega)⟩
theorem BestOf.move {l : List UInt8} {i b : Nat} (h : BestOf l i b) (hi : i < l.length) (hn : numB (rotL l i) ≤ numB (rotL l b)) : BestOf l (i + 1) i :=
  ⟨hi, fun m hm => by
    by_cases e : m = i
    · rw [e]; exact Nat.le_refl _
    · exact Nat.le_trans hn (h.least m (by omega))⟩
theorem ever_at (l : List UInt8) (x : Nat) (h : x % l.length < l.length) : l[x % l.length] = ever l x := by
  rw [← ever_mod, ever_lt l _ h]
set_option maxRecDepth 100000 in
set_option maxHeartbeats 2000000 in
theorem sleast_any (g cap : Nat) (l : List UInt8) (w : World) (hp : 1 ≤ l.length) (hq : l.length ≤ 600) (hc : BytAt w g l) :
    Calls Tryd.prog 51 #[.slice (some ⟨g, 0, none⟩) l.length cap] w fun e w' => (∃ b : Nat, e = .returned (.int .i64 b) ∧ IsNorm l b) ∧ Below w.heap.size w w' := by
  have HC := Lib.hid hc
  clear hc
  have hl0 : ¬ ((l.length : Int) == 0) = true := by simp only [beq_iff_eq]; omega
  go_enter Tryd.func51, Tryd.ntmps51
  go_wp2_with (fail)
  go_loopw [3, 4] (fun m i wr => ∃ (k b : Nat), k + 1 ≤ l.length ∧ m = .int .i64 b ∧ i = .int .i64 ((k : Int) + 1) ∧ BestOf l (k + 1) b ∧ Below w.heap.size w wr) (fun _ i _ => l.length - (intOf i).toNat)
  case atStart => exact ⟨0, 0, by omega, rfl, rfl, ⟨by omega, fun m hm => by rw [show m = 0 by omega]; exact Nat.le_refl _⟩, Below.refl _ _⟩
  case round =>
    obtain ⟨k, b, hk, rfl, rfl, hbest, hbel⟩ := hrel
    have HO := Lib.hid hbest
    have hbl := hbest.lt
    by_cases hlt : k + 1 < l.length
    · have hkn : (k : Int) + 1 < (l.length : Int) := by omega
      have HB := Lib.hid hbel
      clear hbest hbel
      go_wp2_with (fail)
      go_loopw [3, 5] (fun m i wr => ∃ (q : Nat), q ≤ l.length ∧ m = .int .i64 b ∧ i = .int .i64 q ∧ (∀ j, j < q → ever l (k + 1 + j) = ever l (b + j)) ∧ Below w.heap.size w wr) (fun _ i _ => l.length - (intOf i).toNat)
      case atStart => exact ⟨0, by omega, rfl, rfl, fun j hj => by omega, HB.out⟩
      case round =>
        obtain ⟨q, hq2, rfl, rfl, hsame, hbel⟩ := hrel
        by_cases hql : q < l.length
        · have hqn : (q : Int) < (l.length : Int) := by omega
          have hm1 : (k + 1 + q) % l.length < l.length := Nat.mod_lt _ hp
          have hm2 : (b + q) % l.length < l.length := Nat.mod_lt _ hp
          have c0 := cell_below (HC.out _ hm1) hbel
          have c1 := cell_below (HC.out _ hm2) hbel
          rw [ever_at l] at c0 c1
          have HB1 := Lib.hid hbel
          have HS := Lib.hid hsame
          have hI1 : ((k : Int) + 1 + (q : Int)) % (l.length : Int) < (l.length : Int) := Int.emod_lt_of_pos _ (by omega)
          have hI2 : 0 ≤ ((k : Int) + 1 + (q : Int)) % (l.length : Int) := Int.emod_nonneg _ (by omega)
          have hI3 : ((b : Int) + (q : Int)) % (l.length : Int) < (l.length : Int) := Int.emod_lt_of_pos _ (by omega)
          have hI4 : 0 ≤ ((b : Int) + (q : Int)) % (l.length : Int) := Int.emod_nonneg _ (by omega)
          obtain ⟨x, hx⟩ : ∃ x, x = ever l (k + 1 + q) := ⟨_, rfl⟩
          obtain ⟨y, hy⟩ : ∃ y, y = ever l (b + q) := ⟨_, rfl⟩
          rw [← hx] at c0
          rw [← hy] at c1
          have HXX := Lib.hid hx
          have HYY := Lib.hid hy
          clear hbel hsame hx hy
          by_cases hxy : x = y
          · have hbn : ((x.toNat : Int) != (y.toNat : Int)) = false := by rw [hxy]; simp
            have HXY := Lib.hid hxy
            clear hxy
            go_wp2_with (fail)
            refine ⟨⟨q + 1, by omega, rfl, rfl, fun j hj => ?_, HB1.out⟩, ?_⟩
            · by_cases e : j = q
              · rw [e, ← HXX.out, ← HYY.out]; exact HXY.out
              · exact HS.out j (by omega)
            · show l.length - ((q : Int) + 1).toNat < l.length - ((q : Int)).toNat
              omega
          · have hbn : ((x.toNat : Int) != (y.toNat : Int)) = true := by
              simp only [bne_iff_ne, ne_eq, Int.ofNat_inj]
              exact fun e => hxy (UInt8.toNat_inj.1 e)
            by_cases hlt2 : x.toNat < y.toNat
            · have hlx : (x.toNat : Int) < (y.toNat : Int) := by omega
              have HR := Lib.hid (rot_diff l (k + 1) b q hlt hbl hql HS.out (by rw [← HXX.out, ← HYY.out]; exact hlt2))
              clear hxy hlt2
              go_wp2_with (fail)
              refine ⟨⟨k + 1, k + 1, by omega, rfl, rfl, HO.out.move hlt (Nat.le_of_lt HR.out), HB1.out⟩, ?_⟩
              show l.length - ((k : Int) + 1 + 1).toNat < l.length - ((k : Int) + 1).toNat
              omega
            · have hlx : ¬ (x.toNat : Int) < (y.toNat : Int) := by omega
              have hyx : y.toNat < x.toNat := by
                have : x.toNat ≠ y.toNat := fun e => hxy (UInt8.toNat_inj.1 e)
                omega
              have HR := Lib.hid (rot_diff l b (k + 1) q hbl hlt hql (fun j hj => (HS.out j hj).symm) (by rw [← HXX.out, ← HYY.out]; exact hyx))
              clear hxy hlt2 hyx
              go_wp2_with (fail)
              refine ⟨⟨k + 1, b, by omega, rfl, rfl, HO.out.keep (Nat.le_of_lt HR.out), HB1.out⟩, ?_⟩
              show l.length - ((k : Int) + 1 + 1).toNat < l.length - ((k : Int) + 1).toNat
              omega
        · have hqn : ¬ (q : Int) < (l.length : Int) := by omega
          have HB1 := Lib.hid hbel
          have HS := Lib.hid hsame
          clear hbel hsame
          go_wp2_with (fail)
          refine ⟨⟨k + 1, b, by omega, rfl, rfl, HO.out.keep (by rw [rot_same l (k + 1) b hlt hbl (fun j hj => HS.out j (by omega))]; exact Nat.le_refl _), HB1.out⟩, ?_⟩
          show l.length - ((k : Int) + 1 + 1).toNat < l.length - ((k : Int) + 1).toNat
          omega
    · have hkn : ¬ (k : Int) + 1 < (l.length : Int) := by omega
      go_wp2
      go_ret
      exact ⟨⟨b, rfl, ⟨hbl, fun i hi => hbest.least i (by omega)⟩⟩, hbel⟩
end Go.Proofs.YtgcaipjknpcepabDoor
