/- What the general law of fog signals asks of numbers. No Go in sight. What the general law of fog signals asks of loudness and of texts. No Go in sight. -/
import Derived.Test.YthheacebafleeacGreatDoorBlsM
import Derived.Test.YthheacebafleeacGreatDoorPowI
import Derived.Test.YthheacebafleeacGreatDoorRdgX
namespace Go.Proofs.YthheacebafleeacGreatDoor
open Go.ChangeShapes Go.WideShapes Go.ChangeAt Go.RowKit Pm

theorem fnxt_hit {z p s : Int} : ∀ m k : Nat, nxtG z p s m k = p ∨ ∃ i, k ≤ i ∧ i < k + m ∧ nxtG z p s m k = (blastF z i).1 ∧ s ≤ (blastF z i).1
  | 0, _ => .inl rfl
  | m + 1, k => by
    unfold nxtG
    split
    · rename_i h; exact .inr ⟨k, Nat.le_refl _, by omega, rfl, h⟩
    · rcases fnxt_hit (z := z) (p := p) (s := s) m (k + 1) with h | ⟨i, h1, h2, h3, h4⟩
      · exact .inl h
      · exact .inr ⟨i, by omega, by omega, h3, h4⟩
theorem fsnd_hit {z x : Int} {i : Nat} (h : hitB z x i = true) : ∀ m k : Nat, k ≤ i → i < k + m → sndG z x m k = true
  | 0, _, h1, h2 => by omega
  | m + 1, k, h1, h2 => by
    unfold sndG
    by_cases e : i = k
    · rw [← e, h]; rfl
    · rw [fsnd_hit h m (k + 1) (by omega) (by omega), Bool.or_true]
/-- A blast begins in the period's first part. -/
theorem fblast_bd {z : Int} (z0 : 5 ≤ z) (z1 : z ≤ 40) {n i : Nat} (hi : i < n) (hn : n ≤ 6) : 0 ≤ (blastF z i).1 ∧ (blastF z i).1 + z ≤ 2 * n * z ∧ (blastF z i).2 = (blastF z i).1 + z := by
  have hi' : i = 0 ∨ i = 1 ∨ i = 2 ∨ i = 3 ∨ i = 4 ∨ i = 5 := by omega
  have hn' : n = 1 ∨ n = 2 ∨ n = 3 ∨ n = 4 ∨ n = 5 ∨ n = 6 := by omega
  simp only [blastF]
  rcases hi' with rfl | rfl | rfl | rfl | rfl | rfl <;> rcases hn' with rfl | rfl | rfl | rfl | rfl | rfl <;> simp at * <;> omega
theorem next_facts {k b p q t : Int} (h : askC k b p q t = 0) :
    t ≤ nextA k b p q t ∧ nextA k b p q t < t + p ∧ (nextA k b p q t ≤ 1000000000000 → askC k b p q (nextA k b p q t) = 0 ∧ soundA k b p q (nextA k b p q t) = true) := by
  obtain ⟨ok, t0, t1⟩ := ask_yes h
  obtain ⟨h1, ⟨p0, p1⟩, _⟩ := ok_parts ok
  obtain ⟨hk, b0, b1⟩ := shape_yes h1
  have hz := fogLen_in hk
  have ea : ∀ x, 0 ≤ x → x ≤ 1000000000000 → askC k b p q x = 0 := fun x x0 x1 => by unfold askC; rw [if_pos ok, if_pos (inb_in ⟨x0, x1⟩)]
  have en : nextA k b p q t = t - t % p + nxtG (fogLen k) p (t % p) b.toNat 0 := by unfold nextA; rw [if_pos h]
  have es : ∀ x, askC k b p q x = 0 → soundA k b p q x = sndG (fogLen k) (x % p) b.toNat 0 := fun x hx => by unfold soundA; rw [if_pos hx]
  obtain ⟨n, hn⟩ : ∃ n : Nat, b = n := ⟨b.toNat, by omega⟩
  have hp : 2 * (n : Int) * fogLen k ≤ p := by unfold fogLeast at p0; rw [hn] at p0; exact p0
  have hnn : b.toNat = n := by omega
  rw [hnn] at en es
  have n1 : 1 ≤ n := by omega
  have n6 : n ≤ 6 := by omega
  generalize fogLen k = z at *
  have pp : 0 < p := by
    have : (1 : Int) * 5 ≤ n * z := Int.mul_le_mul (by omega) hz.1 (by omega) (by omega)
    rw [Int.mul_assoc] at hp
    omega
  have s0 : 0 ≤ t % p := Int.emod_nonneg _ (by omega)
  have s1 : t % p < p := Int.emod_lt_of_pos _ pp
  have sd := Int.emod_add_mul_ediv t p
  have hit0 : hitB z 0 0 = true := by
    have := fblast_bd hz.1 hz.2 (show 0 < n by omega) n6
    unfold hitB
    rw [decide_eq_true (by simp [blastF]), decide_eq_true (by rw [this.2.2]; simp [blastF]; omega)]; rfl
  have key : t % p ≤ nxtG z p (t % p) n 0 ∧ nxtG z p (t % p) n 0 < t % p + p ∧ sndG z (nxtG z p (t % p) n 0 % p) n 0 = true := by
    rcases fnxt_hit (z := z) (p := p) (s := t % p) n 0 with e | ⟨i, _, hi, e, hs⟩
    · rw [e, Int.emod_self]
      refine ⟨by omega, ?_, fsnd_hit hit0 n 0 (Nat.le_refl _) (by omega)⟩
      by_cases z0 : t % p = 0
      · exfalso
        have : nxtG z p (t % p) n 0 = 0 := by
          obtain ⟨m, rfl⟩ : ∃ m, n = m + 1 := ⟨n - 1, by omega⟩
          unfold nxtG
          rw [z0, if_pos (by simp [blastF])]
          simp [blastF]
        omega
      · omega
    · obtain ⟨c0, c1, c2⟩ := fblast_bd hz.1 hz.2 (show i < n by omega) n6
      rw [e]
      have lt : (blastF z i).1 < p := by omega
      refine ⟨hs, by omega, ?_⟩
      rw [Int.emod_eq_of_lt c0 lt]
      refine fsnd_hit (i := i) ?_ n 0 (Nat.zero_le _) (by omega)
      unfold hitB
      rw [decide_eq_true (Int.le_refl _), decide_eq_true (by omega)]; rfl
  obtain ⟨k1, k2, k3⟩ := key
  rw [en]
  generalize nxtG z p (t % p) n 0 = m at *
  refine ⟨by omega, by omega, fun hm => ?_⟩
  have hask := ea (t - t % p + m) (by omega) hm
  refine ⟨hask, ?_⟩
  rw [es _ hask]
  have e2 : (t - t % p + m) % p = m % p := by
    rw [show t - t % p + m = m + p * (t / p) by omega, Int.add_mul_emod_self_left]
  rw [e2]; exact k3
end Go.Proofs.YthheacebafleeacGreatDoor
namespace Go.Proofs.YthheacebafleeacGreatDoor
open Go.ChangeShapes Go.WideShapes Go.ChangeAt Go.RowKit Pm

theorem pow_facts {d v a c : Int} (h : PowIs d v a c) : (c ≠ 0 ∧ a = 0) ∨ (c = 0 ∧ (60 ≤ a ∧ a ≤ 140) ∧ (-3 ≤ v ∧ v ≤ 3) ∧ d ≤ sndV a v ∧ (60 < a → sndV (a - 1) v < d) ∧ (v < 3 → sndV a v ≤ sndV a (v + 1))) := by
  rcases h with ⟨_, rfl, rfl⟩ | ⟨ok, r, ⟨r0, r1, r2, r3⟩, ⟨k, rfl, rfl⟩ | ⟨k, rfl, rfl⟩⟩
  · exact .inl ⟨by omega, rfl⟩
  · obtain ⟨_, v0, v1⟩ := powOk_yes ok
    refine .inr ⟨rfl, ⟨r0, k⟩, ⟨v0, v1⟩, of_decide_eq_true (r3 a (by omega) k), fun h => ?_, fun h => sndV_wind r0 k v0 h⟩
    have := of_decide_eq_false (r2 (a - 1) (by omega) (by omega))
    omega
  · exact .inl ⟨by omega, rfl⟩
theorem text_back {k b p q : Int} (h : fogOk k b p q = true) : rdF (fogText k b p q) = ((k, b, p, q), true) := by
  refine rd_of h ?_
  unfold fogText
  rw [if_pos h]
theorem rows_many {k b p q : Int} (h : fogOk k b p q = true) : rowsC k b p q = 0 ∧ (rowsN k b p q : Int) = b := by
  obtain ⟨h1, _⟩ := ok_parts h
  obtain ⟨_, b0, _⟩ := shape_yes h1
  unfold rowsC rowsN
  rw [if_pos h, if_pos h]
  exact ⟨rfl, by omega⟩
theorem fogText_size (k b p q : Int) : (fogText k b p q).size ≤ 1048576 := by
  unfold fogText
  cases h : fogOk k b p q
  · exact Nat.zero_le _
  · obtain ⟨h1, ⟨p0, p1⟩, q0, q1⟩ := ok_parts h
    obtain ⟨_, b0, b1⟩ := shape_yes h1
    have lb := least_bd h1
    have z1 := fogHead_size (k := k) (b := b) (by omega) (by omega)
    have z2 := secT_size (n := p) (by omega) (by omega)
    have z3 := decT_size (n := q) (by omega) (by omega)
    simp only [if_pos]
    unfold fogT
    simp only [ByteArray.size_append, one_size]
    omega
end Go.Proofs.YthheacebafleeacGreatDoor
