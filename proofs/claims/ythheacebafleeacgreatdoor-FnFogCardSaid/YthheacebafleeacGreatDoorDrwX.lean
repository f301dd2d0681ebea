/- The source of numbers that the drawn inputs are made of: what it is in memory, and what a call may turn. The source's choices: a number below n, once in n, one of some. -/
import Derived.Test.YthheacebafleeacGreatDoorInts
import Derived.WalkSmall
import Derived.Laws.BitsAllLaws
import Derived.Deep.QuietTactic
import Derived.BigQuiet
import Derived.Deep.RegionHeld3
namespace Go.Proofs.YthheacebafleeacGreatDoor
open Go.ChangeShapes Go.WideShapes Go.ChangeAt Go.RowKit Pm

/-- A slice that came in reads as numbers: it is empty, wherever it leads, or a row of cells. -/
def ArgIn (k : IntKind) (w : World) (sv : Value) (zs : List Int) : Prop := (zs = [] ∧ ∃ a c, sv = .slice a 0 c) ∨ IntsAre k w sv zs
theorem ArgIn.below {k : IntKind} {w w' : World} {sv : Value} {zs : List Int} (h : ArgIn k w sv zs) (hb : Below w.heap.size w w') : ArgIn k w' sv zs :=
  h.elim .inl fun h => .inr (h.below hb)
theorem ArgIn.len {k : IntKind} {w : World} {sv : Value} {zs : List Int} (h : ArgIn k w sv zs) : ∃ a c, sv = .slice a zs.length c := by
  rcases h with ⟨rfl, h⟩ | ⟨rfl, rfl⟩ | ⟨b, off, cap, rfl, _, _⟩
  · exact h
  · exact ⟨none, 0, rfl⟩
  · exact ⟨_, _, rfl⟩
def BytesAre (zs : List Int) : Prop := ∀ i, i < zs.length → 0 ≤ zs.getD i 0 ∧ zs.getD i 0 ≤ 255

theorem arg_in {k : IntKind} {w : World} {a : Option Addr} {len cap : Nat} {zs : List Int}
    (h : (a = none ∧ len = 0 ∧ cap = 0 ∧ zs = []) ∨ ∃ x, a = some x ∧ len ≤ cap ∧ cap ≤ maxLen ∧ zs.length = cap ∧ (∀ i, i < zs.length → w.cell? (x.add i) = some (.int k (zs.getD i 0))) ∧ ∀ n ∈ zs, (Lit.int k n).wf = true) :
    ArgIn k w (.slice a len cap) (zs.take len) ∧ (zs.take len).length = len := by
  rcases h with ⟨rfl, rfl, rfl, rfl⟩ | ⟨x, rfl, hl, hm, hz, hc, _⟩
  · exact ⟨.inl ⟨rfl, _, _, rfl⟩, rfl⟩
  · have hlen : (zs.take len).length = len := by rw [List.length_take]; omega
    refine ⟨?_, hlen⟩
    by_cases h0 : len = 0
    · subst h0
      exact .inl ⟨rfl, _, _, rfl⟩
    · obtain ⟨b, off, spot⟩ := x
      have hs : spot = none := by simpa [Addr.add] using World.cell?_spot (hc 0 (by omega))
      subst hs
      unfold maxLen at hm
      refine .inr (.inr ⟨b, off, cap, by rw [hlen], by omega, fun i hi => ?_⟩)
      have := hc i (by omega)
      have e : ({ block := b, off := off, spot := none } : Addr).add i = ⟨b, off + i, none⟩ := by
        simp only [Addr.add]
        by_cases h : i = 0
        · subst h; rfl
        · rw [if_neg h]
      rw [e] at this
      rw [this]
      congr 2
      rw [List.getD_eq_getElem?_getD, List.getD_eq_getElem?_getD, List.getElem?_take, if_pos (by omega)]
theorem arg_in_bytes {w : World} {a : Option Addr} {len cap : Nat} {zs : List Int}
    (h : (a = none ∧ len = 0 ∧ cap = 0 ∧ zs = []) ∨ ∃ x, a = some x ∧ len ≤ cap ∧ cap ≤ maxLen ∧ zs.length = cap ∧ (∀ i, i < zs.length → w.cell? (x.add i) = some (.int .u8 (zs.getD i 0))) ∧ ∀ n ∈ zs, (Lit.int .u8 n).wf = true) :
    BytesAre (zs.take len) := by
  intro i hi
  rw [List.length_take] at hi
  rcases h with ⟨rfl, rfl, rfl, rfl⟩ | ⟨x, rfl, hl, hm, hz, hc, hw⟩
  · simp at hi
  · have h1 := hw (zs.getD i 0) (by
      rw [List.getD_eq_getElem?_getD, List.getElem?_eq_getElem (by omega)]
      exact List.getElem_mem _)
    have h2 : (zs.take len).getD i 0 = zs.getD i 0 := by
      rw [List.getD_eq_getElem?_getD, List.getD_eq_getElem?_getD, List.getElem?_take, if_pos (by omega)]
    rw [h2]
    have hmin : IntKind.u8.min = 0 := by decide
    have hmax : IntKind.u8.max = 255 := by decide
    have h3 : (decide (IntKind.u8.min ≤ zs.getD i 0) && decide (zs.getD i 0 ≤ IntKind.u8.max)) = true := h1
    rw [hmin, hmax] at h3
    simpa using h3

/-! ### What a call may turn: one block of those that were there -/
def Only (bs : Nat) (w w' : World) : Prop := Below 0 w w' ∧ ∀ k, k ≠ bs → k < w.heap.size → w'.heap[k]? = w.heap[k]?
theorem Only.size {bs : Nat} {w w' : World} (t : Only bs w w') : w.heap.size ≤ w'.heap.size := t.1.size
theorem Only.refl (bs : Nat) (w : World) : Only bs w w := ⟨Below.refl _ _, fun _ _ _ => rfl⟩
theorem Only.of_below {bs : Nat} {w w' : World} (h : Below w.heap.size w w') : Only bs w w' := ⟨⟨h.os, h.tape, h.output, h.size, fun _ h => absurd h (Nat.not_lt_zero _)⟩, fun k _ hk => h.block k hk⟩
theorem Only.trans {bs : Nat} {a b c : World} (h : Only bs a b) (k : Only bs b c) : Only bs a c :=
  ⟨h.1.trans k.1, fun i n hi => (k.2 i n (Nat.lt_of_lt_of_le hi h.size)).trans (h.2 i n hi)⟩
theorem Only.drewN {bs : Nat} {a b : World} (h : Only bs a b) (n : Nat) : Only bs a (b.drewN n) := h.trans (Only.of_below (below_drewN (Below.refl _ _) n))
theorem Only.drew {bs : Nat} {a b : World} (h : Only bs a b) : Only bs a b.drew := h.trans (Only.of_below (Below.refl _ _).drew)
theorem Only.alloc {bs : Nat} {a b : World} (h : Only bs a b) (o : Obj) : Only bs a (b.alloc o) := h.trans (Only.of_below ((Below.refl _ _).alloc (Nat.le_refl _) _))
/-- A store into that block, or into one that is new. -/
theorem Only.put {bs : Nat} {a b : World} (h : Only bs a b) {g j : Nat} (hg : g = bs ∨ a.heap.size ≤ g) (v : Value) : Only bs a (b.setCell ⟨g, j, none⟩ v) := by
  refine ⟨h.1.setCell (Nat.zero_le _) _, fun k n hk => ?_⟩
  rw [Below.heap_setCell _ _ _ _ (by rcases hg with rfl | hg; exact n; simp only; omega)]
  exact h.2 k n hk
theorem Only.below {bs B : Nat} {w0 w w' : World} (h : Below B w0 w) (t : Only bs w w') (h1 : B ≤ bs) (h2 : B ≤ w0.heap.size) : Below B w0 w' :=
  ⟨t.1.os.trans h.os, t.1.tape.trans h.tape, t.1.output.trans h.output, Nat.le_trans h.size t.size, fun k hk => (t.2 k (by omega) (Nat.lt_of_lt_of_le (Nat.lt_of_lt_of_le hk h2) h.size)).trans (h.block k hk)⟩
theorem cell_lt {w : World} {a : Addr} {v : Value} (h : w.cell? a = some v) : a.block < w.heap.size := by
  rcases Nat.lt_or_ge a.block w.heap.size with h' | h'
  · exact h'
  · simp [World.cell?, Array.getElem?_eq_none h'] at h
theorem cell_only {bs : Nat} {w w' : World} {a : Addr} {v : Value} (h : w.cell? a = some v) (n : a.block ≠ bs) (t : Only bs w w') : w'.cell? a = some v := by
  rw [World.cell?_of_block (w := w) (t.2 a.block n (cell_lt h))]; exact h
theorem frozen_only {bs : Nat} {w w' : World} {a : Addr} (h : w.frozen? a = false) (hl : a.block < w.heap.size) (n : a.block ≠ bs) (t : Only bs w w') : w'.frozen? a = false := by
  rw [World.frozen?_of_block (w := w) (t.2 a.block n hl)]; exact h
theorem frozen_bel {w w' : World} {a : Addr} (h : w.frozen? a = false) (hl : a.block < w.heap.size) (hb : Below w.heap.size w w') : w'.frozen? a = false := by
  rw [hb.frozen hl]; exact h
theorem cell_apart {w : World} {a : Addr} {v x : Value} {b j : Nat} (n : a.block ≠ b) (h : w.cell? a = some v) : (w.setCell ⟨b, j, none⟩ x).cell? a = some v := by
  rw [World.cell?_setCell_other _ _ _ _ (by intro e; exact n (by rw [← e]))]; exact h

/-- The source's three fields. -/
def SrcCells (w : World) (bs : Nat) (sv : Value) (k seed : Int) : Prop :=
  w.cell? ⟨bs, 0, none⟩ = some sv ∧ w.cell? ⟨bs, 1, none⟩ = some (.int .i64 k) ∧ w.cell? ⟨bs, 2, none⟩ = some (.int .u64 seed) ∧ w.frozen? ⟨bs, 1, none⟩ = false ∧ w.frozen? ⟨bs, 2, none⟩ = false
/-- A source of the call's own, over bytes that came in, of which at most k have been asked for. -/
structure Src (w0 : World) (bs : Nat) (sv : Value) (zs : List Int) (k : Nat) (w : World) : Prop where
  arg : ArgIn .u8 w0 sv zs
  bytes : BytesAre zs
  len : zs.length ≤ 1048576
  own : w0.heap.size ≤ bs
  bel : Below w0.heap.size w0 w
  at_ : ∃ (j : Nat) (seed : Int), j ≤ k ∧ SrcCells w bs sv j seed

theorem Src.lt {w0 w : World} {bs : Nat} {sv : Value} {zs : List Int} {k : Nat} (h : Src w0 bs sv zs k w) : bs < w.heap.size := by
  obtain ⟨_, _, _, hc, _⟩ := h.at_
  exact cell_lt hc
theorem Src.more {w0 w : World} {bs : Nat} {sv : Value} {zs : List Int} {k m : Nat} (h : Src w0 bs sv zs k w) (hm : k ≤ m) : Src w0 bs sv zs m w := by
  obtain ⟨j, seed, hj, hc⟩ := h.at_
  exact ⟨h.arg, h.bytes, h.len, h.own, h.bel, j, seed, Nat.le_trans hj hm, hc⟩
/-- The source behind a call, an allocation or a draw that turns nothing that was there. -/
theorem Src.below {w0 w w' : World} {bs : Nat} {sv : Value} {zs : List Int} {k : Nat} (h : Src w0 bs sv zs k w) (hb : Below w.heap.size w w') : Src w0 bs sv zs k w' := by
  obtain ⟨j, seed, hj, c0, c1, c2, z1, z2⟩ := h.at_
  have hl := h.lt
  exact ⟨h.arg, h.bytes, h.len, h.own, h.bel.trans (hb.mono h.bel.size), j, seed, hj, cell_below c0 hb, cell_below c1 hb, cell_below c2 hb, frozen_bel z1 hl hb, frozen_bel z2 hl hb⟩
theorem Src.drew {w0 w : World} {bs : Nat} {sv : Value} {zs : List Int} {k : Nat} (h : Src w0 bs sv zs k w) : Src w0 bs sv zs k w.drew := h.below (Below.refl _ _).drew
theorem Src.alloc {w0 w : World} {bs : Nat} {sv : Value} {zs : List Int} {k : Nat} (h : Src w0 bs sv zs k w) (o : Obj) : Src w0 bs sv zs k (w.alloc o) := h.below ((Below.refl _ _).alloc (Nat.le_refl _) _)
/-- The source behind a store elsewhere. -/
theorem Src.put {w0 w : World} {bs : Nat} {sv : Value} {zs : List Int} {k g j : Nat} (h : Src w0 bs sv zs k w) (n : bs ≠ g) (hg : w0.heap.size ≤ g) (v : Value) : Src w0 bs sv zs k (w.setCell ⟨g, j, none⟩ v) := by
  obtain ⟨i, seed, hj, c0, c1, c2, z1, z2⟩ := h.at_
  exact ⟨h.arg, h.bytes, h.len, h.own, h.bel.setCell hg _, i, seed, hj, cell_apart n c0, cell_apart n c1, cell_apart n c2, by rw [World.frozen?_setCell]; exact z1, by rw [World.frozen?_setCell]; exact z2⟩

theorem and255 (a : Int) (h1 : 0 ≤ a) (h2 : a < 18446744073709551616) : 0 ≤ bits .and .u64 a 255 ∧ bits .and .u64 a 255 ≤ 255 := by
  rw [u64_and a 255 h1 h2 (by omega) (by omega)]
  have : a.toNat &&& (255 : Int).toNat ≤ 255 := Nat.and_le_right
  omega
theorem u64_lim (n : Int) : 0 ≤ IntKind.u64.wrap n ∧ IntKind.u64.wrap n < 18446744073709551616 := by
  simp [IntKind.wrap, IntKind.bits, IntKind.signed]; omega

/-- What a number of the source's leaves. -/
def NextTo (w : World) (bs : Nat) (k : Nat) (e : Ending) (w' : World) : Prop :=
  ∃ (x s2 : Int) (m n : Nat), 0 ≤ x ∧ x ≤ 255 ∧ e = .returned (.int .i64 x) ∧ w' = (((w.drewN m).setCell ⟨bs, 1, none⟩ (.int .i64 ((k : Int) + 1))).setCell ⟨bs, 2, none⟩ (.int .u64 s2)).drewN n

set_option maxRecDepth 100000 in
theorem nextto_byte (w : World) (bs : Nat) (b off cap : Nat) (len k : Nat) (seed x : Int) (hcell : w.cell? ⟨b, off + k, none⟩ = some (.int .u8 x)) (x0 : 0 ≤ x) (x1 : x ≤ 255) (hl : len ≤ 1048576) (hk : k < len)
    (hS : SrcCells w bs (.slice (some ⟨b, off, none⟩) len cap) k seed) :
    Calls Tryz.prog 53 #[.pointer (some ⟨bs, 0, none⟩)] w (NextTo w bs k) := by
  obtain ⟨f0, f1, f2, z1, z2⟩ := hS
  go_enter Tryz.func53, Tryz.ntmps53
  go_wp2_with (fail)
  go_quiet (fail)
  go_wp2_with (fail)
  go_quiet (fail)
  go_wp2_with (fail)
  go_quiet (fail)
  go_wp2
  go_ret
  exact ⟨x, _, _, _, x0, x1, rfl, rfl⟩

set_option maxRecDepth 100000 in
theorem nextto_none (w : World) (bs : Nat) (a : Option Addr) (len cap : Nat) (k : Nat) (seed : Int) (hk : len ≤ k) (hk2 : k ≤ 1000000000) (hS : SrcCells w bs (.slice a len cap) k seed) :
    Calls Tryz.prog 53 #[.pointer (some ⟨bs, 0, none⟩)] w (NextTo w bs k) := by
  obtain ⟨f0, f1, f2, z1, z2⟩ := hS
  go_enter Tryz.func53, Tryz.ntmps53
  go_wp2_with (fail)
  go_quiet (fail)
  go_wp2_with (fail)
  go_quiet (fail)
  go_wp2
  go_ret
  obtain ⟨q0, q1⟩ := u64_lim (IntKind.u64.wrap (IntKind.u64.wrap (seed * 6364136223846793005)) + 1442695040888963407)
  obtain ⟨y0, y1⟩ := and255 (IntKind.u64.wrap (IntKind.u64.wrap (IntKind.u64.wrap (seed * 6364136223846793005)) + 1442695040888963407) / 1099511627776) (by omega) (by omega)
  have hw := IntWalk.wrap64_in _ (show -9223372036854775808 ≤ bits .and .u64 (IntKind.u64.wrap (IntKind.u64.wrap (IntKind.u64.wrap (seed * 6364136223846793005)) + 1442695040888963407) / 1099511627776) 255 ∧ _ from ⟨by omega, by omega⟩)
  exact ⟨_, _, _, _, by rw [hw]; exact y0, by rw [hw]; exact y1, rfl, rfl⟩

/-- The ending of a draw: the value's fact, the source, what may have turned. -/
def Drawn (P : Value → Prop) (w0 : World) (bs : Nat) (sv : Value) (zs : List Int) (k : Nat) (w : World) (e : Ending) (w' : World) : Prop :=
  ∃ v, P v ∧ e = .returned v ∧ Src w0 bs sv zs k w' ∧ Only bs w w'

theorem next_draw (w0 w : World) (bs : Nat) (sv : Value) (zs : List Int) (k : Nat) (hk : k ≤ 1000000) (h : Src w0 bs sv zs k w) :
    Calls Tryz.prog 53 #[.pointer (some ⟨bs, 0, none⟩)] w (Drawn (fun v => ∃ x : Int, 0 ≤ x ∧ x ≤ 255 ∧ v = .int .i64 x) w0 bs sv zs (k + 1) w) := by
  obtain ⟨j, seed, hj, hS⟩ := h.at_
  have hN : Calls Tryz.prog 53 #[.pointer (some ⟨bs, 0, none⟩)] w (NextTo w bs j) := by
    by_cases hjl : j < zs.length
    · rcases h.arg with ⟨rfl, _⟩ | ⟨rfl, rfl⟩ | ⟨b, off, cap, rfl, _, hc⟩
      · simp at hjl
      · simp at hjl
      · obtain ⟨x0, x1⟩ := h.bytes j hjl
        exact nextto_byte w bs b off cap zs.length j seed _ (cell_below (hc j hjl) h.bel) x0 x1 h.len hjl hS
    · obtain ⟨a, c, rfl⟩ := h.arg.len
      exact nextto_none w bs a zs.length c j seed (by omega) (by omega) hS
  refine hN.mono ?_
  rintro e w' ⟨x, s2, m, n, x0, x1, rfl, rfl⟩
  obtain ⟨c0, c1, c2, z1, z2⟩ := hS
  have c1' : (w.drewN m).cell? ⟨bs, 1, none⟩ = some (.int .i64 j) := c1
  have c2' : (w.drewN m).cell? ⟨bs, 2, none⟩ = some (.int .u64 seed) := c2
  have c0' : (w.drewN m).cell? ⟨bs, 0, none⟩ = some sv := c0
  have g2 : ((w.drewN m).setCell ⟨bs, 1, none⟩ (.int .i64 ((j : Int) + 1))).cell? ⟨bs, 2, none⟩ = some (.int .u64 seed) := by
    rw [World.cell?_setCell_other _ _ _ _ (by intro e; injection e with _ e; omega)]; exact c2'
  refine ⟨_, ⟨x, x0, x1, rfl⟩, rfl, ⟨h.arg, h.bytes, h.len, h.own, ?_, j + 1, s2, by omega, ?_, ?_, ?_, ?_, ?_⟩, ?_⟩
  · exact below_drewN (((below_drewN h.bel m).setCell (p := ⟨bs, 1, none⟩) h.own _).setCell (p := ⟨bs, 2, none⟩) h.own _) n
  · show World.cell? (World.setCell _ _ _) _ = _
    rw [World.cell?_setCell_other _ _ _ _ (by intro e; injection e with _ e; omega), World.cell?_setCell_other _ _ _ _ (by intro e; injection e with _ e; omega)]; exact c0'
  · show World.cell? (World.setCell _ _ _) _ = _
    rw [World.cell?_setCell_other _ _ _ _ (by intro e; injection e with _ e; omega), World.cell?_setCell_same _ _ _ c1']
    simp
  · show World.cell? (World.setCell _ _ _) _ = _
    rw [World.cell?_setCell_same _ _ _ g2]
  · show World.frozen? (World.setCell _ _ _) _ = _
    rw [World.frozen?_setCell, World.frozen?_setCell]; exact z1
  · show World.frozen? (World.setCell _ _ _) _ = _
    rw [World.frozen?_setCell, World.frozen?_setCell]; exact z2
  · exact ((((Only.refl bs w).drewN m).put (.inl rfl) _).put (.inl rfl) _).drewN n
end Go.Proofs.YthheacebafleeacGreatDoor
namespace Go.Proofs.YthheacebafleeacGreatDoor
open Go.ChangeShapes Go.WideShapes Go.ChangeAt Go.RowKit Pm

/-- A new source. -/
theorem from_new (w : World) (sv : Value) (zs : List Int) (h : ArgIn .u8 w sv zs) (hz : BytesAre zs) (hl : zs.length ≤ 1048576) :
    Calls Tryz.prog 14 #[sv] w fun e w' => e = .returned (.pointer (some ⟨w.heap.size, 0, none⟩)) ∧ Src w w.heap.size sv zs 0 w' ∧ Below w.heap.size w w' := by
  have hA := Lib.hid h
  obtain ⟨a, c, rfl⟩ := h.len
  clear h
  go_enter Tryz.func14, Tryz.ntmps14
  go_wp2
  go_ret
  refine ⟨rfl, ⟨hA.out, hz, hl, Nat.le_refl _, (Below.refl _ _).alloc (Nat.le_refl _) _, 0, 0, Nat.le_refl _, ?_, ?_, ?_, ?_, ?_⟩, (Below.refl _ _).alloc (Nat.le_refl _) _⟩ <;> (first | (simp; done) | (go_simp; done) | go_cell)

def PickP (n : Int) (v : Value) : Prop := ∃ x : Int, 0 ≤ x ∧ x < n ∧ v = .int .i64 x

theorem pick_draw (w0 w : World) (bs : Nat) (sv : Value) (zs : List Int) (k : Nat) (n : Int) (hk : k ≤ 900000) (n0 : 1 ≤ n) (n1 : n ≤ 1000000000) (h : Src w0 bs sv zs k w) :
    Calls Tryz.prog 32 #[.pointer (some ⟨bs, 0, none⟩), .int .i64 n] w (Drawn (PickP n) w0 bs sv zs (k + 2) w) := by
  by_cases hn : n ≤ 1
  · obtain rfl : n = 1 := by omega
    have H := Lib.hid (h.more (show k ≤ k + 2 by omega))
    clear h
    go_enter Tryz.func32, Tryz.ntmps32
    go_wp2
    go_ret
    exact ⟨_, ⟨0, by omega, by omega, rfl⟩, rfl, H.out, Only.refl _ _⟩
  · have H1 := Lib.hid (next_draw w0 w bs sv zs k (by omega) h)
    clear h
    by_cases h2 : 200 < n
    · go_enter Tryz.func32, Tryz.ntmps32
      go_wp2_with (go_at_call 53; refine H1.out.mono ?_; rintro e w2 ⟨_, ⟨x, x0, x1, rfl⟩, rfl, hS2, ho2⟩; refine Hid.out ?_)
      refine Lib.hid ?_
      have H2 := Lib.hid (next_draw w0 w2 bs sv zs (k + 1) (by omega) hS2)
      have HO2 := Lib.hid ho2
      clear hS2 ho2
      go_wp2_with (go_at_call 53; refine H2.out.mono ?_; rintro e w3 ⟨_, ⟨y, y0, y1, rfl⟩, rfl, hS3, ho3⟩; refine Hid.out ?_)
      refine Lib.hid ?_
      have HS3 := Lib.hid hS3
      have HO3 := Lib.hid (HO2.out.trans ho3)
      clear hS3 ho3
      go_wp2_with (fail)
      go_ret
      exact ⟨_, ⟨(x * 256 + y) % n, Int.emod_nonneg _ (by omega), Int.emod_lt_of_pos _ (by omega), rfl⟩, rfl, HS3.out, HO3.out⟩
    · go_enter Tryz.func32, Tryz.ntmps32
      go_wp2_with (go_at_call 53; refine H1.out.mono ?_; rintro e w2 ⟨_, ⟨x, x0, x1, rfl⟩, rfl, hS2, ho2⟩; refine Hid.out ?_)
      refine Lib.hid ?_
      have HS2 := Lib.hid (hS2.more (show k + 1 ≤ k + 2 by omega))
      have HO2 := Lib.hid ho2
      clear hS2 ho2
      go_wp2_with (fail)
      go_ret
      exact ⟨_, ⟨x % n, Int.emod_nonneg _ (by omega), Int.emod_lt_of_pos _ (by omega), rfl⟩, rfl, HS2.out, HO2.out⟩

theorem one_draw (w0 w : World) (bs : Nat) (sv : Value) (zs : List Int) (k : Nat) (n : Int) (hk : k ≤ 900000) (n0 : 1 ≤ n) (n1 : n ≤ 1000000000) (h : Src w0 bs sv zs k w) :
    Calls Tryz.prog 33 #[.pointer (some ⟨bs, 0, none⟩), .int .i64 n] w (Drawn (fun v => ∃ b : Bool, v = .bool b) w0 bs sv zs (k + 2) w) := by
  have H1 := Lib.hid (pick_draw w0 w bs sv zs k n hk n0 n1 h)
  clear h
  go_enter Tryz.func33, Tryz.ntmps33
  go_wp2_with (go_at_call 32; refine H1.out.mono ?_; rintro e w2 ⟨_, ⟨x, x0, x1, rfl⟩, rfl, hS2, ho2⟩; refine Hid.out ?_)
  refine Lib.hid ?_
  have HS2 := Lib.hid hS2
  have HO2 := Lib.hid ho2
  clear hS2 ho2
  go_wp2_with (fail)
  go_ret
  exact ⟨_, ⟨_, rfl⟩, rfl, HS2.out, HO2.out⟩

theorem among_draw (w0 w : World) (bs : Nat) (sv : Value) (zs : List Int) (k : Nat) (b : Nat) (cap : Nat) (xs : List Int) (hk : k ≤ 900000) (x0 : 1 ≤ xs.length) (x1 : xs.length ≤ 1000000) (hb : b ≠ bs)
    (hc : ∀ i, i < xs.length → w.cell? ⟨b, i, none⟩ = some (.int .i64 (xs.getD i 0))) (h : Src w0 bs sv zs k w) :
    Calls Tryz.prog 34 #[.pointer (some ⟨bs, 0, none⟩), .slice (some ⟨b, 0, none⟩) xs.length cap] w (Drawn (fun v => ∃ m, m ∈ xs ∧ v = .int .i64 m) w0 bs sv zs (k + 2) w) := by
  have H1 := Lib.hid (pick_draw w0 w bs sv zs k xs.length hk (by omega) (by omega) h)
  have HC := Lib.hid hc
  clear h hc
  go_enter Tryz.func34, Tryz.ntmps34
  go_wp2_with (go_at_call 32; refine H1.out.mono ?_; rintro e w2 ⟨_, ⟨x, x0, x1, rfl⟩, rfl, hS2, ho2⟩; refine Hid.out ?_)
  refine Lib.hid ?_
  obtain ⟨i, rfl⟩ := Int.eq_ofNat_of_zero_le x0
  have hi : i < xs.length := by omega
  have hcell := cell_only (HC.out i hi) hb ho2
  have HV := Lib.hid (show ∃ m, m ∈ xs ∧ Value.int .i64 (xs.getD i 0) = .int .i64 m from ⟨_, by rw [List.getD_eq_getElem?_getD, List.getElem?_eq_getElem hi]; exact List.getElem_mem _, rfl⟩)
  have HS2 := Lib.hid hS2
  have HO2 := Lib.hid ho2
  clear hS2 ho2
  generalize xs.getD i 0 = y at hcell HV
  go_wp2_with (fail)
  go_ret
  exact ⟨_, HV.out, rfl, HS2.out, HO2.out⟩
end Go.Proofs.YthheacebafleeacGreatDoor
