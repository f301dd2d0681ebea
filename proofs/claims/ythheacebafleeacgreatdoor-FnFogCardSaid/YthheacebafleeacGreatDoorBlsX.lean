/- Rows of pairs of numbers in memory, and a law's own words on them: compared, marked, held. Rows of pairs that a call lays one after the other. -/
import Derived.Test.YthheacebafleeacGreatDoorOkX
import Derived.Test.YthheacebafleeacGreatDoorClx
import Derived.Test.YthheacebafleeacGreatDoorSlices
import Derived.Laws.AppendOwn
import Derived.Test.YthheacebafleeacGreatDoorFogM
namespace Go.Proofs.YthheacebafleeacGreatDoor
open Go.ChangeShapes Go.WideShapes Go.ChangeAt Go.RowKit Pm

/-- Two numbers in a block of their own. -/
def Row2 (w : World) (b : Nat) (x y : Int) : Prop := w.heap[b]? = some (.cells #[.int .i64 x, .int .i64 y] 2 (0, 0))
theorem Row2.c0 {w : World} {b : Nat} {x y : Int} (h : Row2 w b x y) : w.cell? ⟨b, 0, none⟩ = some (.int .i64 x) := by
  unfold Row2 at h; simp [World.cell?, h]
theorem Row2.c1 {w : World} {b : Nat} {x y : Int} (h : Row2 w b x y) : w.cell? ⟨b, 1, none⟩ = some (.int .i64 y) := by
  unfold Row2 at h; simp [World.cell?, h]
theorem Row2.f {w : World} {b : Nat} {x y : Int} (h : Row2 w b x y) (i : Nat) : w.frozen? ⟨b, i, none⟩ = false := by
  unfold Row2 at h; simp [World.frozen?, h]
theorem Row2.lt {w : World} {b : Nat} {x y : Int} (h : Row2 w b x y) : b < w.heap.size := by
  rcases Nat.lt_or_ge b w.heap.size with h' | h'
  · exact h'
  · unfold Row2 at h; rw [Array.getElem?_eq_none h'] at h; cases h
theorem Row2.below {w w' : World} {b : Nat} {x y : Int} (h : Row2 w b x y) (hb : Below w.heap.size w w') : Row2 w' b x y := by
  unfold Row2; rw [hb.block b h.lt]; exact h
theorem Row2.new (w : World) (n : Nat) (hn : w.heap.size = n) (x y : Int) : Row2 (w.alloc (.cells #[.int .i64 x, .int .i64 y] 2)) n x y := by
  subst hn
  exact (MapKept.heap_alloc w _).1
/-- A store into another block. -/
theorem Row2.other {w : World} {b : Nat} {x y : Int} (h : Row2 w b x y) (p : Addr) (v : Value) (hne : p.block ≠ b) : Row2 (w.setCell p v) b x y := by
  unfold Row2
  rw [Below.heap_setCell _ _ _ _ (fun e => hne e.symm)]
  exact h
theorem Row2.marked {w : World} {b : Nat} {x y : Int} (h : Row2 w b x y) (u v : Int) : Row2 ((w.setCell ⟨b, 0, none⟩ (.int .i64 u)).setCell ⟨b, 1, none⟩ (.int .i64 v)) b u v := by
  unfold Row2 at h ⊢
  simp [World.setCell, Array.getElem?_modify, h]
theorem Row2.ints {w : World} {b : Nat} {x y : Int} (h : Row2 w b x y) : IntsAre .i64 w (.slice (some ⟨b, 0, none⟩) 2 2) [x, y] :=
  .inr ⟨b, 0, 2, rfl, by simp, fun i hi => by
    match i, hi with
    | 0, _ => exact h.c0
    | 1, _ => exact h.c1⟩
/-- Where the pairs lie. -/
structure Rows2 (w : World) (B g : Nat) (bs : Nat → Nat) (n : Nat) (f : Nat → Int × Int) : Prop where
  cell : ∀ i, i < n → w.cell? ⟨g, i, none⟩ = some (.slice (some ⟨bs i, 0, none⟩) 2 2)
  val : ∀ i, i < n → Row2 w (bs i) (f i).1 (f i).2
  ge : ∀ i, i < n → B ≤ bs i
  ne : ∀ i, i < n → bs i ≠ g
  inj : ∀ i j, i < n → j < n → bs i = bs j → i = j
theorem Rows2.below {w w' : World} {B g : Nat} {bs : Nat → Nat} {n : Nat} {f : Nat → Int × Int} (h : Rows2 w B g bs n f) (hb : Below w.heap.size w w') : Rows2 w' B g bs n f :=
  ⟨fun i hi => cell_below (h.cell i hi) hb, fun i hi => (h.val i hi).below hb, h.ge, h.ne, h.inj⟩
theorem Rows2.mono {w : World} {B B' g : Nat} {bs : Nat → Nat} {n : Nat} {f : Nat → Int × Int} (h : Rows2 w B g bs n f) (hB : B' ≤ B) : Rows2 w B' g bs n f :=
  ⟨h.cell, h.val, fun i hi => Nat.le_trans hB (h.ge i hi), h.ne, h.inj⟩
/-- A slice of pairs: nil, or a row of them. -/
def RowsV (w : World) (B : Nat) (v : Value) (n : Nat) (f : Nat → Int × Int) : Prop := (n = 0 ∧ v = .slice none 0 0) ∨ (0 < n ∧ ∃ g cap bs, v = .slice (some ⟨g, 0, none⟩) n cap ∧ Rows2 w B g bs n f)
theorem RowsV.below {w w' : World} {B : Nat} {v : Value} {n : Nat} {f : Nat → Int × Int} (h : RowsV w B v n f) (hb : Below w.heap.size w w') : RowsV w' B v n f := by
  rcases h with h | ⟨h0, g, cap, bs, e, h⟩
  · exact .inl h
  · exact .inr ⟨h0, g, cap, bs, e, h.below hb⟩

theorem RowsV.mono {w : World} {B B' : Nat} {v : Value} {n : Nat} {f : Nat → Int × Int} (h : RowsV w B v n f) (hB : B' ≤ B) : RowsV w B' v n f := by
  rcases h with h | ⟨h0, g, cap, bs, e, h⟩
  · exact .inl h
  · exact .inr ⟨h0, g, cap, bs, e, h.mono hB⟩
theorem clxB {w0 w : World} {a0 a1 : Addr} {v0 v1 : Value} (h0 : w.cell? a0 = some v0) (h1 : w.cell? a1 = some v1) (hB : Below w0.heap.size w0 w) :
    ∃ S : World → Prop, (∀ w1 w2, S w1 → Below w1.heap.size w1 w2 → S w2) ∧ S w.drew ∧ (∀ p : Clx S, p.v.cell? a0 = some v0) ∧ (∀ p : Clx S, p.v.cell? a1 = some v1) ∧ ∀ p : Clx S, Below w0.heap.size w0 p.v :=
  ⟨fun w' => w'.cell? a0 = some v0 ∧ w'.cell? a1 = some v1 ∧ Below w0.heap.size w0 w', fun _ _ h hb => keep2 hb h, drew2 ⟨h0, h1, hB⟩, fun p => p.h.1, fun p => p.h.2.1, fun p => p.h.2.2⟩

/-! ### Compared -/

/-! ### Marked -/
end Go.Proofs.YthheacebafleeacGreatDoor
namespace Go.Proofs.YthheacebafleeacGreatDoor
open Go.ChangeShapes Go.WideShapes Go.ChangeAt Go.RowKit Pm

/-- The blasts of a period. -/
def blastF (z : Int) (i : Nat) : Int × Int := (2 * i * z, 2 * i * z + z)
/-- The slice of a pair. -/
def rowV (b : Nat) : Value := .slice (some ⟨b, 0, none⟩) 2 2
/-- The first rows lie there. -/
structure BlsUpto (w : World) (B : Nat) (xs : List Value) (k : Nat) (bs : Nat → Nat) (f : Nat → Int × Int) : Prop where
  at_ : ∀ i, i < k → xs[i]? = some (rowV (bs i))
  val : ∀ i, i < k → Row2 w (bs i) (f i).1 (f i).2
  ge : ∀ i, i < k → B ≤ bs i
  inj : ∀ i j, i < k → j < k → bs i = bs j → i = j
theorem BlsUpto.zero (w : World) (B : Nat) (xs : List Value) (bs : Nat → Nat) (f : Nat → Int × Int) : BlsUpto w B xs 0 bs f :=
  ⟨fun i h => by omega, fun i h => by omega, fun i h => by omega, fun i j h => by omega⟩
theorem BlsUpto.step {w w' : World} {B : Nat} {xs ys : List Value} {k : Nat} {bs : Nat → Nat} {f : Nat → Int × Int} (h : BlsUpto w B xs k bs f) (N : Nat)
    (hold : ∀ i, i < k → ys[i]? = xs[i]?) (hnew : ys[k]? = some (rowV N)) (kept : ∀ j x y, Row2 w j x y → Row2 w' j x y) (hN : w.heap.size ≤ N) (hB : B ≤ N) (hv : Row2 w' N (f k).1 (f k).2) :
    BlsUpto w' B ys (k + 1) (fun i => if i = k then N else bs i) f := by
  have hlt : ∀ i, i < k → bs i < N := fun i hi => Nat.lt_of_lt_of_le (h.val i hi).lt hN
  refine ⟨fun i hi => ?_, fun i hi => ?_, fun i hi => ?_, fun i j hi hj e => ?_⟩
  · by_cases e : i = k
    · subst e; simp [hnew]
    · rw [if_neg e, hold i (by omega)]; exact h.at_ i (by omega)
  · by_cases e : i = k
    · subst e; simpa using hv
    · rw [if_neg e]; exact kept _ _ _ (h.val i (by omega))
  · by_cases e : i = k
    · subst e; simpa using hB
    · rw [if_neg e]; exact h.ge i (by omega)
  · by_cases e1 : i = k
    · by_cases e2 : j = k
      · omega
      · rw [if_pos e1, if_neg e2] at e
        have := hlt j (by omega); omega
    · by_cases e2 : j = k
      · rw [if_neg e1, if_pos e2] at e
        have := hlt i (by omega); omega
      · rw [if_neg e1, if_neg e2] at e
        exact h.inj i j (by omega) (by omega) e
/-- An own row of slices is no row of numbers. -/
theorem row2_apart {w : World} {g : Nat} {cur : Array Value} {j : Nat} {x y : Int} (hg : w.heap[g]? = some (.cells cur 51 (0, 0))) (h : Row2 w j x y) : j ≠ g := by
  rintro rfl
  unfold Row2 at h
  rw [hg] at h
  simp at h
theorem own_apart {w : World} {B : Nat} {v : Value} {n : Nat} {xs : List Value} (ho : w.ownsRow B 51 1 v n xs) {j : Nat} {x y : Int} (h : Row2 w j x y) : some j ≠ v.ownBlock := by
  rcases ho.2 with ⟨rfl, _⟩ | ⟨g, cap, cur, rfl, _, hg, _⟩
  · simp [Value.ownBlock]
  · have := row2_apart hg h
    simpa [Value.ownBlock] using this
theorem RowsV.of {w : World} {B B' : Nat} {v : Value} {n : Nat} {xs : List Value} {bs : Nat → Nat} {f : Nat → Int × Int} (ho : w.ownsRow B' 51 1 v n xs) (h : BlsUpto w B xs n bs f) (h0 : 0 < n) : RowsV w B v n f := by
  obtain ⟨g, cap, rfl, _, _⟩ := ho.form h0
  refine .inr ⟨h0, g, cap, bs, rfl, fun i hi => ?_, h.val, h.ge, fun i hi => ?_, h.inj⟩
  · rw [ho.cellAt i (by omega)]; exact h.at_ i hi
  · have := own_apart ho (h.val i hi)
    simpa [Value.ownBlock] using this
theorem BlsUpto.below {w w' : World} {B : Nat} {xs : List Value} {k : Nat} {bs : Nat → Nat} {f : Nat → Int × Int} (h : BlsUpto w B xs k bs f) (hb : Below w.heap.size w w') : BlsUpto w' B xs k bs f :=
  ⟨h.at_, fun i hi => (h.val i hi).below hb, h.ge, h.inj⟩
theorem rowinfo : (Tryz.prog.info? 51).map (fun i => (i.zero, i.size, i.bytes)) = some (some (.slice none 0 0), 1, 24) := by kernel_rfl
theorem rowinfo_parts : ∃ i, Tryz.prog.info? 51 = some i ∧ i.zero = some (.slice none 0 0) ∧ i.size = 1 ∧ i.bytes = 24 := by
  have h := rowinfo
  cases hi : Tryz.prog.info? 51 with
  | none => rw [hi] at h; cases h
  | some i => rw [hi] at h; simp at h; exact ⟨i, rfl, h.1, h.2.1, h.2.2⟩
/-- Appending a row. -/
theorem wpList_app_row {ops : Array Oper} {rest : List Oper} {o : Oper} {a : Act} {Q : Exit → Act → World → Prop} (hgd : o.guard = none) (s x : Operand)
    (B : Nat) (v : Value) (xs : List Value) (u : Value) (w0 wr : World) (T : TypeId) (hown : wr.ownsRow B 51 1 v xs.length xs) (hb : Below B w0 wr) (hB : B ≤ w0.heap.size) (hl : xs.length ≤ 1000) (hu : u.oneCell' = true)
    (ho : o.op = .call { callee := .builtin .append, args := #[s, x], argTypes := #[32, 32] })
    (hs : a.eval s = v) (n : Nat) (hn : wr.heap.size = n) (hx : a.eval x = .slice (some ⟨n, 0, none⟩) 1 1)
    (h : ∀ (v' : Value) (w' : World), w'.ownsRow B 51 1 v' (xs.length + 1) (xs ++ [u]) → Below B w0 w' → (∀ j p q, Row2 wr j p q → Row2 w' j p q) → wpList Tryz.prog ops Q rest (a.put o.dst v') w') :
    wpList Tryz.prog ops Q (o :: rest) a (wr.alloc (.cells #[u] T)) := by
  subst hn
  obtain ⟨i0, hi, hz0, hz1, hz2⟩ := rowinfo_parts
  have hsz := hb.size
  have hal : Below wr.heap.size wr (wr.alloc (.cells #[u] T)) := (Below.refl _ _).alloc (Nat.le_refl _) _
  have hrow : (wr.alloc (.cells #[u] T)).ownsRow B 51 1 v xs.length xs := own_below hown hal
  refine wpList_append_own _ hgd s x 32 ho B 51 i0 (.slice none 0 0) 1 24 Tryz.underlying32 hi hz0 hz1 hz2 rfl (by decide) v xs.length xs hs hrow ⟨wr.heap.size, 0, none⟩ 1 1 [u] hx rfl
    (by
      intro j y hj
      match j, hj with
      | 0, hj => simp at hj; subst hj; simp [Addr.add]) (by intro y hy; simp at hy; rw [hy]; exact hu) (by unfold maxLen; omega) (by omega) (by simp; omega) ?_
  intro v' w' h2 h3 _
  refine h v' w' h2 ?_ ?_
  · exact (hb.alloc (by omega) _).grown h3 (by simp; omega) (fun k hk => (hown.lt k hk).1)
  · intro j p q hr
    have hne := own_apart hown hr
    have hr2 := hr.below hal
    have hlt := hr2.lt
    unfold Row2 at hr2 ⊢
    rw [h3.block j hlt hne]
    exact hr2
end Go.Proofs.YthheacebafleeacGreatDoor
