/- The least period of a list of bytes. -/
import Derived.Test.YtgcaipjknpcepabDoorNam
namespace Go.Proofs.YtgcaipjknpcepabDoor
open Go.ChangeShapes Go.WideShapes Go.ChangeAt Go.RowKit Pm

/-- The list, repeated for ever. -/
def ever (T : List UInt8) (i : Nat) : UInt8 := T.getD (i % T.length) 45
theorem ever_mod (T : List UInt8) (i : Nat) : ever T (i % T.length) = ever T i := by unfold ever; rw [Nat.mod_mod]
theorem ever_lt (T : List UInt8) (i : Nat) (h : i < T.length) : ever T i = T[i] := by
  unfold ever
  rw [Nat.mod_eq_of_lt h, List.getD_eq_getElem?_getD, List.getElem?_eq_getElem h]; rfl
theorem rot_get (T : List UInt8) (n i : Nat) (hn : n ≤ T.length) (h : i < T.length) : (rotL T n)[i]'(by rw [rotL_len]; exact h) = ever T (i + n) := by
  have hh : i < (rotL T n).length := by rw [rotL_len]; exact h
  have e : (rotL T n)[i]? = some (ever T (i + n)) := by
    unfold rotL
    by_cases hi : i < T.length - n
    · rw [List.getElem?_append_left (by rw [List.length_drop]; exact hi), List.getElem?_drop, ever_lt T (i + n) (by omega), Nat.add_comm n i, List.getElem?_eq_getElem]
    · rw [List.getElem?_append_right (by rw [List.length_drop]; omega), List.length_drop, List.getElem?_take, if_pos (by omega)]
      have e : (i + n) % T.length = i - (T.length - n) := by
        rw [Nat.mod_eq_sub_mod (by omega), Nat.mod_eq_of_lt (by omega)]; omega
      rw [← ever_mod, e, ever_lt T _ (by omega), List.getElem?_eq_getElem]
  rw [List.getElem?_eq_getElem hh] at e
  exact Option.some.inj e
theorem rot_iff (T : List UInt8) (n : Nat) (hL : 1 ≤ T.length) (hn : n ≤ T.length) : rotL T n = T ↔ ∀ i, ever T (i + n) = ever T i := by
  constructor
  · intro h i
    have hi : i % T.length < T.length := Nat.mod_lt _ hL
    have h1 := rot_get T n (i % T.length) hn hi
    have h2 : ever T (i % T.length + n) = ever T (i + n) := by
      rw [← ever_mod, ← ever_mod T (i + n), Nat.mod_add_mod]
    rw [← h2, ← h1, ← ever_mod T i, ever_lt T _ hi]
    congr 1
  · intro h
    refine List.ext_getElem (rotL_len T n) fun i h1 h2 => ?_
    rw [rot_get T n i hn h2, h i, ever_lt T i h2]
theorem ever_len (T : List UInt8) (i : Nat) : ever T (i + T.length) = ever T i := by unfold ever; rw [Nat.add_mod_right]
theorem ever_mul {T : List UInt8} {n : Nat} (h : ∀ i, ever T (i + n) = ever T i) (k i : Nat) : ever T (i + n * k) = ever T i := by
  induction k with
  | zero => rfl
  | succ k ih => rw [Nat.mul_succ, ← Nat.add_assoc, h, ih]
/-- The least period. -/
structure IsPer (T : List UInt8) (n : Nat) : Prop where
  pos : 1 ≤ n
  le : n ≤ T.length
  rot : rotL T n = T
  least : ∀ m, 1 ≤ m → m < n → rotL T m ≠ T
theorem IsPer.unique {T : List UInt8} {n m : Nat} (h : IsPer T n) (k : IsPer T m) : n = m := by
  rcases Nat.lt_trichotomy n m with e | e | e
  · exact absurd h.rot (k.least n h.pos e)
  · exact e
  · exact absurd k.rot (h.least m k.pos e)
def perFrom (T : List UInt8) : Nat → Nat → Nat
  | 0, n => n
  | f + 1, n => if rotL T n = T then n else perFrom T f (n + 1)
def perL (T : List UInt8) : Nat := perFrom T T.length 1
theorem perFrom_is (T : List UInt8) : ∀ f n, 1 ≤ n → n + f = T.length + 1 → n ≤ T.length → (∀ m, 1 ≤ m → m < n → rotL T m ≠ T) → IsPer T (perFrom T f n)
  | 0, n, h1, h2, h3, hl => by omega
  | f + 1, n, h1, h2, h3, hl => by
    unfold perFrom
    by_cases e : rotL T n = T
    · rw [if_pos e]; exact ⟨h1, h3, e, hl⟩
    · rw [if_neg e]
      have hn : n ≠ T.length := fun x => e (by rw [x]; unfold rotL; simp)
      refine perFrom_is T f (n + 1) (by omega) (by omega) (by omega) fun m m1 m2 => ?_
      by_cases em : m = n
      · rw [em]; exact e
      · exact hl m m1 (by omega)
theorem perL_is (T : List UInt8) (h : 1 ≤ T.length) : IsPer T (perL T) := perFrom_is T _ 1 (by omega) (by omega) h (by intro m; omega)
theorem IsPer.dvd {T : List UInt8} {n : Nat} (h : IsPer T n) : T.length % n = 0 := by
  have hL : 1 ≤ T.length := Nat.le_trans h.pos h.le
  have hn := (rot_iff T n hL h.le).1 h.rot
  have hlt : T.length % n < n := Nat.mod_lt _ h.pos
  by_cases e : T.length % n = 0
  · exact e
  refine absurd ?_ (h.least (T.length % n) (by omega) hlt)
  refine (rot_iff T _ hL (Nat.mod_le _ _)).2 fun i => ?_
  rw [← ever_mul hn (T.length / n) (i + T.length % n), Nat.add_assoc, Nat.mod_add_div, ever_len]
/-- What the model tests. -/
theorem rot_test (T : List UInt8) (n : Nat) (h1 : 1 ≤ n) (hn : n ≤ T.length) (hd : T.length % n = 0) :
    rotL T n = T ↔ ∀ i, i + n < T.length → ever T i = ever T (i + n) := by
  have hL : 1 ≤ T.length := by omega
  constructor
  · intro h i _
    exact ((rot_iff T n hL hn).1 h i).symm
  · intro h
    have hg : ∀ i, i < T.length → ever T i = ever T (i % n) := by
      intro i
      induction i using Nat.strongRecOn with
      | _ i ih =>
        intro hi
        by_cases e : i < n
        · rw [Nat.mod_eq_of_lt e]
        · have h2 := h (i - n) (by omega)
          rw [show i - n + n = i by omega] at h2
          rw [← h2, ih (i - n) (by omega) (by omega), ← Nat.mod_eq_sub_mod (by omega)]
    refine (rot_iff T n hL hn).2 fun i => ?_
    have hdv : n ∣ T.length := Nat.dvd_of_mod_eq_zero hd
    rw [← ever_mod T (i + n), ← ever_mod T i, hg _ (Nat.mod_lt _ hL), hg _ (Nat.mod_lt i hL), Nat.mod_mod_of_dvd _ hdv, Nat.mod_mod_of_dvd _ hdv, Nat.add_mod_right]
/-- A period that the model passes over is none. -/
theorem not_rot (T : List UInt8) (n : Nat) (h1 : 1 ≤ n) (hn : n ≤ T.length) (hl : ∀ m, 1 ≤ m → m < n → rotL T m ≠ T) (hd : T.length % n ≠ 0) : rotL T n ≠ T :=
  fun e => hd (IsPer.dvd ⟨h1, hn, e, hl⟩)
/-- The model's bytes have the same periods. -/
theorem unT_inj {a b : UInt8} (ha : picb a = true) (hb : picb b = true) (h : unT a = unT b) : a = b := by
  rcases picb_cases ha with rfl | rfl | rfl | rfl | rfl <;> rcases picb_cases hb with rfl | rfl | rfl | rfl | rfl <;> first | rfl | exact absurd h (by decide)
theorem mapT_inj : ∀ {a b : List UInt8}, (∀ x ∈ a, picb x = true) → (∀ x ∈ b, picb x = true) → a.map unT = b.map unT → a = b
  | [], [], _, _, _ => rfl
  | [], _ :: _, _, _, h => by simp at h
  | _ :: _, [], _, _, h => by simp at h
  | x :: a, y :: b, ha, hb, h => by
    rw [List.map_cons, List.map_cons, List.cons.injEq] at h
    rw [unT_inj (ha x (by simp)) (hb y (by simp)) h.1, mapT_inj (fun z hz => ha z (by simp [hz])) (fun z hz => hb z (by simp [hz])) h.2]
theorem rot_map (T : List UInt8) (n : Nat) : rotL (T.map unT) n = (rotL T n).map unT := by unfold rotL; simp
theorem rot_mem {T : List UInt8} {n : Nat} {x : UInt8} (h : x ∈ rotL T n) : x ∈ T := by
  unfold rotL at h
  rcases List.mem_append.1 h with h | h
  · exact List.mem_of_mem_drop h
  · exact List.mem_of_mem_take h
theorem rot_mapT {T : List UInt8} (h : PicL T) (n : Nat) : rotL (T.map unT) n = T.map unT ↔ rotL T n = T := by
  rw [rot_map]
  exact ⟨fun e => mapT_inj (fun x hx => h.pic x (rot_mem hx)) h.pic e, fun e => by rw [e]⟩
theorem perL_map {T : List UInt8} (h : PicL T) : perL (T.map unT) = perL T := by
  have h1 := perL_is (T.map unT) (by rw [List.length_map]; exact h.pos)
  refine IsPer.unique ⟨h1.pos, by have := h1.le; rw [List.length_map] at this; exact this, (rot_mapT h _).1 h1.rot, fun m m1 m2 e => h1.least m m1 m2 ((rot_mapT h _).2 e)⟩ (perL_is T h.pos)
/-- What the program searches. -/
theorem twice_drop (T : List UInt8) (n : Nat) (hn : n ≤ T.length) : ((T ++ T).drop n).take T.length = rotL T n := by
  unfold rotL
  rw [List.drop_append, show n - T.length = 0 by omega, List.drop_zero, List.take_append, List.length_drop]
  rw [List.take_of_length_le (by rw [List.length_drop]; omega), show T.length - (T.length - n) = n by omega]
theorem twice_index (T : List UInt8) (h : 1 ≤ T.length) : Lib.index ((T ++ T).drop 1) T + 1 = (perL T : Int) := by
  have hp := perL_is T h
  have h1 := hp.pos
  have hocc : ∀ j, j + 1 ≤ T.length → (Lib.occAt ((T ++ T).drop 1) T j = true ↔ rotL T (j + 1) = T) := by
    intro j hj
    unfold Lib.occAt
    rw [List.isPrefixOf_iff_prefix, List.prefix_iff_eq_take, List.drop_drop, Nat.add_comm 1 j, twice_drop T (j + 1) hj]
    exact ⟨fun e => e.symm, fun e => e.symm⟩
  have hle := hp.le
  have e : Lib.index ((T ++ T).drop 1) T = ((perL T - 1 : Nat) : Int) := by
    refine Lib.index_first ?_ ((hocc _ (by omega)).2 (by rw [Nat.sub_add_cancel h1]; exact hp.rot)) fun j hj => ?_
    · rw [List.length_drop, List.length_append]; omega
    · cases hb : Lib.occAt ((T ++ T).drop 1) T j
      · rfl
      · exact absurd ((hocc j (by omega)).1 hb) (hp.least (j + 1) (by omega) (by omega))
  rw [e]; omega
end Go.Proofs.YtgcaipjknpcepabDoor
