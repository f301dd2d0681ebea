/- Rows of pairs that a call lays one after the other. -/
import Derived.Test.YtbfhnfoaipaljaaDoorBlsR
import Derived.Test.YtbfhnfoaipaljaaDoorFogM
namespace Go.Proofs.YtbfhnfoaipaljaaDoor
open Go.ChangeShapes Go.WideShapes Go.ChangeAt Go.RowKit Pm

/-- The blasts of a period. -/
def blastF (z : Int) (i : Nat) : Int × Int := (2 * i * z, 2 * i * z + z)
/-- The slice of a pair. -/
def rowV (b : Nat) : Value := .slice (some ⟨b, 0, none⟩) 2 2
/-- The first rows lie there. -/
structure BlsUpto (w : World) (B : Nat) (xs : List Value) (k : Nat) (bs : Nat → Nat) (f : Nat → Int × Int) : Prop where
  at_ : ∀ i, i < k → xs[i]? = some (rowV (bs i))
  val : ∀ i, i < k → Row2 w (bs i) (f i).1 (f i).2
  ge : ∀ i, i < k → B ≤ bs i
  inj : ∀ i j, i < k → j < k → bs i = bs j → i = j
theorem BlsUpto.zero (w : World) (B : Nat) (xs : List Value) (bs : Nat → Nat) (f : Nat → Int × Int) : BlsUpto w B xs 0 bs f :=
  ⟨fun i h => by omega, fun i h => by omega, fun i h => by omega, fun i j h => by omega⟩
theorem BlsUpto.step {w w' : World} {B : Nat} {xs ys : List Value} {k : Nat} {bs : Nat → Nat} {f : Nat → Int × Int} (h : BlsUpto w B xs k bs f) (N : Nat)
    (hold : ∀ i, i < k → ys[i]? = xs[i]?) (hnew : ys[k]? = some (rowV N)) (kept : ∀ j x y, Row2 w j x y → Row2 w' j x y) (hN : w.heap.size ≤ N) (hB : B ≤ N) (hv : Row2 w' N (f k).1 (f k).2) :
    BlsUpto w' B ys (k + 1) (fun i => if i = k then N else bs i) f := by
  have hlt : ∀ i, i < k → bs i < N := fun i hi => Nat.lt_of_lt_of_le (h.val i hi).lt hN
  refine ⟨fun i hi => ?_, fun i hi => ?_, fun i hi => ?_, fun i j hi hj e => ?_⟩
  · by_cases e : i = k
    · subst e; simp [hnew]
    · rw [if_neg e, hold i (by omega)]; exact h.at_ i (by omega)
  · by_cases e : i = k
    · subst e; simpa using hv
    · rw [if_neg e]; exact kept _ _ _ (h.val i (by omega))
  · by_cases e : i = k
    · subst e; simpa using hB
    · rw [if_neg e]; exact h.ge i (by omega)
  · by_cases e1 : i = k
    · by_cases e2 : j = k
      · omega
      · rw [if_pos e1, if_neg e2] at e
        have := hlt j (by omega); omega
    · by_cases e2 : j = k
      · rw [if_neg e1, if_pos e2] at e
        have := hlt i (by omega); omega
      · rw [if_neg e1, if_neg e2] at e
        exact h.inj i j (by omega) (by omega) e
/-- An own row of slices is no row of numbers. -/
theorem row2_apart {w : World} {g : Nat} {cur : Array Value} {j : Nat} {x y : Int} (hg : w.heap[g]? = some (.cells cur 75 (0, 0))) (h : Row2 w j x y) : j ≠ g := by
  rintro rfl
  unfold Row2 at h
  rw [hg] at h
  simp at h
theorem own_apart {w : World} {B : Nat} {v : Value} {n : Nat} {xs : List Value} (ho : w.ownsRow B 75 1 v n xs) {j : Nat} {x y : Int} (h : Row2 w j x y) : some j ≠ v.ownBlock := by
  rcases ho.2 with ⟨rfl, _⟩ | ⟨g, cap, cur, rfl, _, hg, _⟩
  · simp [Value.ownBlock]
  · have := row2_apart hg h
    simpa [Value.ownBlock] using this
theorem RowsV.of {w : World} {B B' : Nat} {v : Value} {n : Nat} {xs : List Value} {bs : Nat → Nat} {f : Nat → Int × Int} (ho : w.ownsRow B' 75 1 v n xs) (h : BlsUpto w B xs n bs f) (h0 : 0 < n) : RowsV w B v n f := by
  obtain ⟨g, cap, rfl, _, _⟩ := ho.form h0
  refine .inr ⟨h0, g, cap, bs, rfl, fun i hi => ?_, h.val, h.ge, fun i hi => ?_, h.inj⟩
  · rw [ho.cellAt i (by omega)]; exact h.at_ i hi
  · have := own_apart ho (h.val i hi)
    simpa [Value.ownBlock] using this
theorem BlsUpto.below {w w' : World} {B : Nat} {xs : List Value} {k : Nat} {bs : Nat → Nat} {f : Nat → Int × Int} (h : BlsUpto w B xs k bs f) (hb : Below w.heap.size w w') : BlsUpto w' B xs k bs f :=
  ⟨h.at_, fun i hi => (h.val i hi).below hb, h.ge, h.inj⟩
theorem rowinfo : (Tryd.prog.info? 75).map (fun i => (i.zero, i.size, i.bytes)) = some (some (.slice none 0 0), 1, 24) := by kernel_rfl
theorem rowinfo_parts : ∃ i, Tryd.prog.info? 75 = some i ∧ i.zero = some (.slice none 0 0) ∧ i.size = 1 ∧ i.bytes = 24 := by
  have h := rowinfo
  cases hi : Tryd.prog.info? 75 with
  | none => rw [hi] at h; cases h
  | some i => rw [hi] at h; simp at h; exact ⟨i, rfl, h.1, h.2.1, h.2.2⟩
/-- Appending a row. -/
theorem wpList_app_row {ops : Array Oper} {rest : List Oper} {o : Oper} {a : Act} {Q : Exit → Act → World → Prop} (hgd : o.guard = none) (s x : Operand)
    (B : Nat) (v : Value) (xs : List Value) (u : Value) (w0 wr : World) (T : TypeId) (hown : wr.ownsRow B 75 1 v xs.length xs) (hb : Below B w0 wr) (hB : B ≤ w0.heap.size) (hl : xs.length ≤ 1000) (hu : u.oneCell' = true)
    (ho : o.op = .call { callee := .builtin .append, args := #[s, x], argTypes := #[33, 33] })
    (hs : a.eval s = v) (n : Nat) (hn : wr.heap.size = n) (hx : a.eval x = .slice (some ⟨n, 0, none⟩) 1 1)
    (h : ∀ (v' : Value) (w' : World), w'.ownsRow B 75 1 v' (xs.length + 1) (xs ++ [u]) → Below B w0 w' → (∀ j p q, Row2 wr j p q → Row2 w' j p q) → wpList Tryd.prog ops Q rest (a.put o.dst v') w') :
    wpList Tryd.prog ops Q (o :: rest) a (wr.alloc (.cells #[u] T)) := by
  subst hn
  obtain ⟨i0, hi, hz0, hz1, hz2⟩ := rowinfo_parts
  have hsz := hb.size
  have hal : Below wr.heap.size wr (wr.alloc (.cells #[u] T)) := (Below.refl _ _).alloc (Nat.le_refl _) _
  have hrow : (wr.alloc (.cells #[u] T)).ownsRow B 75 1 v xs.length xs := own_below hown hal
  refine wpList_append_own _ hgd s x 33 ho B 75 i0 (.slice none 0 0) 1 24 Tryd.underlying33 hi hz0 hz1 hz2 rfl (by decide) v xs.length xs hs hrow ⟨wr.heap.size, 0, none⟩ 1 1 [u] hx rfl
    (by
      intro j y hj
      match j, hj with
      | 0, hj => simp at hj; subst hj; simp [Addr.add]) (by intro y hy; simp at hy; rw [hy]; exact hu) (by unfold maxLen; omega) (by omega) (by simp; omega) ?_
  intro v' w' h2 h3 _
  refine h v' w' h2 ?_ ?_
  · exact (hb.alloc (by omega) _).grown h3 (by simp; omega) (fun k hk => (hown.lt k hk).1)
  · intro j p q hr
    have hne := own_apart hown hr
    have hr2 := hr.below hal
    have hlt := hr2.lt
    unfold Row2 at hr2 ⊢
    rw [h3.block j hlt hne]
    exact hr2
end Go.Proofs.YtbfhnfoaipaljaaDoor
