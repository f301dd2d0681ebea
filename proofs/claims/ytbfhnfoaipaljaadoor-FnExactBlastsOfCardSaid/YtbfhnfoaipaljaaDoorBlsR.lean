/- Rows of pairs of numbers in memory, and a law's own words on them: compared, marked, held. -/
import Derived.Test.YtbfhnfoaipaljaaDoorKit
import Derived.Test.YtbfhnfoaipaljaaDoorClx
import Derived.Test.YtbfhnfoaipaljaaDoorSlices
import Derived.Laws.AppendOwn
namespace Go.Proofs.YtbfhnfoaipaljaaDoor
open Go.ChangeShapes Go.WideShapes Go.ChangeAt Go.RowKit Pm

/-- Two numbers in a block of their own. -/
def Row2 (w : World) (b : Nat) (x y : Int) : Prop := w.heap[b]? = some (.cells #[.int .i64 x, .int .i64 y] 2 (0, 0))
theorem Row2.c0 {w : World} {b : Nat} {x y : Int} (h : Row2 w b x y) : w.cell? ⟨b, 0, none⟩ = some (.int .i64 x) := by
  unfold Row2 at h; simp [World.cell?, h]
theorem Row2.c1 {w : World} {b : Nat} {x y : Int} (h : Row2 w b x y) : w.cell? ⟨b, 1, none⟩ = some (.int .i64 y) := by
  unfold Row2 at h; simp [World.cell?, h]
theorem Row2.f {w : World} {b : Nat} {x y : Int} (h : Row2 w b x y) (i : Nat) : w.frozen? ⟨b, i, none⟩ = false := by
  unfold Row2 at h; simp [World.frozen?, h]
theorem Row2.lt {w : World} {b : Nat} {x y : Int} (h : Row2 w b x y) : b < w.heap.size := by
  rcases Nat.lt_or_ge b w.heap.size with h' | h'
  · exact h'
  · unfold Row2 at h; rw [Array.getElem?_eq_none h'] at h; cases h
theorem Row2.below {w w' : World} {b : Nat} {x y : Int} (h : Row2 w b x y) (hb : Below w.heap.size w w') : Row2 w' b x y := by
  unfold Row2; rw [hb.block b h.lt]; exact h
theorem Row2.new (w : World) (n : Nat) (hn : w.heap.size = n) (x y : Int) : Row2 (w.alloc (.cells #[.int .i64 x, .int .i64 y] 2)) n x y := by
  subst hn
  exact (MapKept.heap_alloc w _).1
/-- A store into another block. -/
theorem Row2.other {w : World} {b : Nat} {x y : Int} (h : Row2 w b x y) (p : Addr) (v : Value) (hne : p.block ≠ b) : Row2 (w.setCell p v) b x y := by
  unfold Row2
  rw [Below.heap_setCell _ _ _ _ (fun e => hne e.symm)]
  exact h
theorem Row2.marked {w : World} {b : Nat} {x y : Int} (h : Row2 w b x y) (u v : Int) : Row2 ((w.setCell ⟨b, 0, none⟩ (.int .i64 u)).setCell ⟨b, 1, none⟩ (.int .i64 v)) b u v := by
  unfold Row2 at h ⊢
  simp [World.setCell, Array.getElem?_modify, h]
theorem Row2.ints {w : World} {b : Nat} {x y : Int} (h : Row2 w b x y) : IntsAre .i64 w (.slice (some ⟨b, 0, none⟩) 2 2) [x, y] :=
  .inr ⟨b, 0, 2, rfl, by simp, fun i hi => by
    match i, hi with
    | 0, _ => exact h.c0
    | 1, _ => exact h.c1⟩
/-- Where the pairs lie. -/
structure Rows2 (w : World) (B g : Nat) (bs : Nat → Nat) (n : Nat) (f : Nat → Int × Int) : Prop where
  cell : ∀ i, i < n → w.cell? ⟨g, i, none⟩ = some (.slice (some ⟨bs i, 0, none⟩) 2 2)
  val : ∀ i, i < n → Row2 w (bs i) (f i).1 (f i).2
  ge : ∀ i, i < n → B ≤ bs i
  ne : ∀ i, i < n → bs i ≠ g
  inj : ∀ i j, i < n → j < n → bs i = bs j → i = j
theorem Rows2.below {w w' : World} {B g : Nat} {bs : Nat → Nat} {n : Nat} {f : Nat → Int × Int} (h : Rows2 w B g bs n f) (hb : Below w.heap.size w w') : Rows2 w' B g bs n f :=
  ⟨fun i hi => cell_below (h.cell i hi) hb, fun i hi => (h.val i hi).below hb, h.ge, h.ne, h.inj⟩
theorem Rows2.mono {w : World} {B B' g : Nat} {bs : Nat → Nat} {n : Nat} {f : Nat → Int × Int} (h : Rows2 w B g bs n f) (hB : B' ≤ B) : Rows2 w B' g bs n f :=
  ⟨h.cell, h.val, fun i hi => Nat.le_trans hB (h.ge i hi), h.ne, h.inj⟩
/-- A slice of pairs: nil, or a row of them. -/
def RowsV (w : World) (B : Nat) (v : Value) (n : Nat) (f : Nat → Int × Int) : Prop := (n = 0 ∧ v = .slice none 0 0) ∨ (0 < n ∧ ∃ g cap bs, v = .slice (some ⟨g, 0, none⟩) n cap ∧ Rows2 w B g bs n f)
theorem RowsV.below {w w' : World} {B : Nat} {v : Value} {n : Nat} {f : Nat → Int × Int} (h : RowsV w B v n f) (hb : Below w.heap.size w w') : RowsV w' B v n f := by
  rcases h with h | ⟨h0, g, cap, bs, e, h⟩
  · exact .inl h
  · exact .inr ⟨h0, g, cap, bs, e, h.below hb⟩

theorem RowsV.mono {w : World} {B B' : Nat} {v : Value} {n : Nat} {f : Nat → Int × Int} (h : RowsV w B v n f) (hB : B' ≤ B) : RowsV w B' v n f := by
  rcases h with h | ⟨h0, g, cap, bs, e, h⟩
  · exact .inl h
  · exact .inr ⟨h0, g, cap, bs, e, h.mono hB⟩
theorem clxB {w0 w : World} {a0 a1 : Addr} {v0 v1 : Value} (h0 : w.cell? a0 = some v0) (h1 : w.cell? a1 = some v1) (hB : Below w0.heap.size w0 w) :
    ∃ S : World → Prop, (∀ w1 w2, S w1 → Below w1.heap.size w1 w2 → S w2) ∧ S w.drew ∧ (∀ p : Clx S, p.v.cell? a0 = some v0) ∧ (∀ p : Clx S, p.v.cell? a1 = some v1) ∧ ∀ p : Clx S, Below w0.heap.size w0 p.v :=
  ⟨fun w' => w'.cell? a0 = some v0 ∧ w'.cell? a1 = some v1 ∧ Below w0.heap.size w0 w', fun _ _ h hb => keep2 hb h, drew2 ⟨h0, h1, hB⟩, fun p => p.h.1, fun p => p.h.2.1, fun p => p.h.2.2⟩

/-! ### Compared -/
set_option maxHeartbeats 1000000 in
theorem eqrows_same (v1 v2 : Value) (B1 B2 n : Nat) (f : Nat → Int × Int) (w : World) (hn : n ≤ 6) (h1 : RowsV w B1 v1 n f) (h2 : RowsV w B2 v2 n f) :
    Calls Tryd.prog 26 #[v1, v2] w fun e w' => e = .returned (.bool true) ∧ Below w.heap.size w w' := by
  rcases h1 with ⟨rfl, rfl⟩ | ⟨h0, g1, cap1, b1, rfl, r1⟩
  · obtain ⟨_, rfl⟩ := h2.resolve_right (fun h => by have := h.1; omega)
    go_enter Tryd.func26, Tryd.ntmps26
    go_wp2
    go_rounds 1
    go_ret
    exact ⟨rfl, Below.refl _ _⟩
  · obtain ⟨_, g2, cap2, b2, rfl, r2⟩ := h2.resolve_left (fun h => by have := h.1; omega)
    have R1 := Lib.hid r1
    have R2 := Lib.hid r2
    clear r1 r2
    go_enter Tryd.func26, Tryd.ntmps26
    go_wp2_with (fail)
    go_loopw [5] (fun i wr => ∃ k : Nat, k ≤ n ∧ i = .int .i64 k ∧ Below w.heap.size w wr) (fun i _ => n - (intOf i).toNat)
    case atStart => exact ⟨0, Nat.zero_le _, rfl, Below.refl _ _⟩
    case round =>
      obtain ⟨k, hk, rfl, hbel⟩ := hrel
      by_cases hlt : k < n
      · have hkn : (k : Int) < (n : Int) := by omega
        have c0 := cell_below (R1.out.cell k hlt) hbel
        have c1 := cell_below (R2.out.cell k hlt) hbel
        have i1 := ((R1.out.val k hlt).below hbel)
        have i2 := ((R2.out.val k hlt).below hbel)
        generalize b1 k = x1 at *
        generalize b2 k = x2 at *
        have HE := Lib.hid (fun W (h : Below wr.heap.size wr W) => (eqints_same _ _ _ W (i1.below h).ints (i2.below h).ints).mono (R' := fun e w' => e = .returned (.bool true) ∧ Below W.heap.size W w') (fun _ _ ⟨he, m, hm⟩ => ⟨he, hm ▸ fall_drew W m⟩))
        clear i1 i2
        have HBL := Lib.hid hbel
        have hbr : Below wr.heap.size wr wr := Below.refl _ _
        clear hbel
        go_wp2_with (fail)
        obtain ⟨S, hcl, hS0, k0, k1, kB⟩ := clxB c0 c1 hbr
        have hne : Nonempty (Clx S) := ⟨⟨_, hS0⟩⟩
        clear c0 c1 hbr
        refine wp_region_clx S (by kernel_rfl) (by kernel_rfl) hS0 ?_
        repeat (go_big_quiet_step ((go_at_call 58; exact Clx.call hcl _ (HE.out _ (kB _)))))
        refine wpQuiet_nil ?_
        intro _ hw'
        obtain ⟨p, rfl⟩ := hw'
        have HB2 := Lib.hid (Below.next HBL.out (kB p))
        clear hS0 kB k0 k1 hne hcl HBL
        go_wp2_with (fail)
        go_roundw
        case rel => exact ⟨k + 1, by omega, by go_num, HB2.out⟩
        case measure => simp [intOf]; omega
      · obtain rfl : k = n := by omega
        go_wp2
        go_ret
        exact ⟨rfl, hbel⟩

/-! ### Marked -/
set_option maxHeartbeats 1000000 in
theorem markrow (b : Nat) (x y k : Int) (w : World) (h : Row2 w b x y) (k0 : 0 ≤ k) (k1 : k ≤ 1000) :
    Calls Tryd.prog 59 #[.slice (some ⟨b, 0, none⟩) 2 2, .int .i64 k] w fun e w' => e = .returned (.int .i64 (k + 2)) ∧ w' = (w.setCell ⟨b, 0, none⟩ (.int .i64 k)).setCell ⟨b, 1, none⟩ (.int .i64 (k + 1)) := by
  have c0 := h.c0
  have c1 := h.c1
  have f0 := h.f 0
  have f1 := h.f 1
  clear h
  go_enter Tryd.func59, Tryd.ntmps59
  go_wp2
  go_rounds 3
  go_ret
  exact ⟨ret_i (by omega), rfl⟩
theorem Rows2.congr {w : World} {B g : Nat} {bs : Nat → Nat} {n : Nat} {f f' : Nat → Int × Int} (h : Rows2 w B g bs n f) (e : ∀ i, i < n → f i = f' i) : Rows2 w B g bs n f' :=
  ⟨h.cell, fun i hi => by rw [← e i hi]; exact h.val i hi, h.ge, h.ne, h.inj⟩
theorem Rows2.mark {w : World} {B g : Nat} {bs : Nat → Nat} {n : Nat} {f : Nat → Int × Int} (h : Rows2 w B g bs n f) (j : Nat) (hj : j < n) (u v : Int) :
    Rows2 ((w.setCell ⟨bs j, 0, none⟩ (.int .i64 u)).setCell ⟨bs j, 1, none⟩ (.int .i64 v)) B g bs n (fun i => if i = j then (u, v) else f i) := by
  refine ⟨fun i hi => ?_, fun i hi => ?_, h.ge, h.ne, h.inj⟩
  · have hn := h.ne j hj
    rw [World.cell?_setCell_other _ _ _ _ (by intro e; exact hn (congrArg Addr.block e)), World.cell?_setCell_other _ _ _ _ (by intro e; exact hn (congrArg Addr.block e))]
    exact h.cell i hi
  · by_cases e : i = j
    · subst e
      simp only [if_true]
      exact (h.val i hi).marked u v
    · rw [if_neg e]
      have hb : bs j ≠ bs i := fun e2 => e (h.inj i j hi hj e2.symm)
      exact ((h.val i hi).other _ _ hb).other _ _ hb
def markF (k : Int) (i : Nat) : Int × Int := (k + 2 * i, k + 2 * i + 1)
set_option maxHeartbeats 1000000 in
theorem markrows_any (v : Value) (B n : Nat) (f : Nat → Int × Int) (k : Int) (w : World) (hn : n ≤ 6) (k0 : 0 ≤ k) (k1 : k ≤ 100) (h : RowsV w B v n f) :
    Calls Tryd.prog 27 #[v, .int .i64 k] w fun e w' => e = .returned (.int .i64 (k + 2 * n)) ∧ RowsV w' B v n (markF k) ∧ Below B w w' := by
  rcases h with ⟨rfl, rfl⟩ | ⟨h0, g, cap, bs, rfl, r⟩
  · go_enter Tryd.func27, Tryd.ntmps27
    go_wp2
    go_rounds 1
    go_ret
    exact ⟨ret_i (by omega), .inl ⟨rfl, rfl⟩, Below.refl _ _⟩
  · have R := Lib.hid r
    clear r
    go_enter Tryd.func27, Tryd.ntmps27
    go_wp2_with (fail)
    go_loopw [1, 5] (fun q i wr => ∃ j : Nat, j ≤ n ∧ i = .int .i64 j ∧ q = .int .i64 (k + 2 * j) ∧ Rows2 wr B g bs n (fun i => if i < j then markF k i else f i) ∧ Below B w wr) (fun _ i _ => n - (intOf i).toNat)
    case atStart => exact ⟨0, Nat.zero_le _, rfl, by simp, R.out.congr (fun i hi => by simp), Below.refl _ _⟩
    case round =>
      obtain ⟨j, hj, rfl, rfl, hr, hbel⟩ := hrel
      have HR := Lib.hid hr
      have HB := Lib.hid hbel
      clear hr hbel
      by_cases hlt : j < n
      · have hkn : (j : Int) < (n : Int) := by omega
        have c0 := HR.out.cell j hlt
        have hv := HR.out.val j hlt
        have hge := HR.out.ge j hlt
        have HM := Lib.hid (markrow _ _ _ (k + 2 * (j : Int)) wr hv (by omega) (by omega))
        have HNEW := Lib.hid ((HR.out.mark j hlt (k + 2 * (j : Int)) (k + 2 * (j : Int) + 1)).congr (f' := fun i => if i < j + 1 then markF k i else f i) (fun i hi => by
          by_cases e : i = j
          · subst e; simp [markF]
          · by_cases e2 : i < j
            · simp [e, e2, show i < j + 1 by omega]
            · simp [e, e2, show ¬ i < j + 1 by omega]))
        have HB2 := Lib.hid ((HB.out.setCell (p := ⟨bs j, 0, none⟩) hge (.int .i64 (k + 2 * (j : Int)))).setCell (p := ⟨bs j, 1, none⟩) hge (.int .i64 (k + 2 * (j : Int) + 1)))
        generalize bs j = x at c0 HM HNEW HB2
        clear hv hge HR HB
        go_wp2_with (go_at_call 59; refine HM.out.mono ?_; rintro e w2 ⟨rfl, rfl⟩)
        go_roundw
        case rel => exact ⟨j + 1, by omega, by go_num, by congr 1; omega, HNEW.out, HB2.out⟩
        case measure => simp [intOf]; omega
      · obtain rfl : j = n := by omega
        have HF := Lib.hid (HR.out.congr (f' := markF k) (fun i hi => by simp [hi]))
        clear HR
        go_wp2
        go_ret
        exact ⟨rfl, .inr ⟨h0, g, cap, bs, rfl, HF.out⟩, HB.out⟩
set_option maxHeartbeats 1000000 in
theorem heldrow (b : Nat) (k : Int) (w : World) (h : Row2 w b k (k + 1)) (k0 : 0 ≤ k) (k1 : k ≤ 1000) :
    Calls Tryd.prog 60 #[.slice (some ⟨b, 0, none⟩) 2 2, .int .i64 k] w fun e w' => e = .returned (.int .i64 (k + 2)) ∧ w = w' := by
  have c0 := h.c0
  have c1 := h.c1
  clear h
  go_enter Tryd.func60, Tryd.ntmps60
  go_wp2
  go_rounds 3
  go_ret
  exact ⟨ret_i (by omega), rfl⟩
set_option maxHeartbeats 1000000 in
theorem heldrows_any (v : Value) (B n : Nat) (k : Int) (w : World) (hn : n ≤ 6) (k0 : 0 ≤ k) (k1 : k ≤ 100) (h : RowsV w B v n (markF k)) :
    Calls Tryd.prog 28 #[v, .int .i64 k] w fun e w' => e = .returned (.int .i64 (k + 2 * n)) ∧ w = w' := by
  rcases h with ⟨rfl, rfl⟩ | ⟨h0, g, cap, bs, rfl, r⟩
  · go_enter Tryd.func28, Tryd.ntmps28
    go_wp2
    go_rounds 1
    go_ret
    exact ⟨ret_i (by omega), rfl⟩
  · have R := Lib.hid r
    clear r
    go_enter Tryd.func28, Tryd.ntmps28
    go_wp2_with (fail)
    go_loopw [1, 5] (fun q i wr => ∃ j : Nat, j ≤ n ∧ i = .int .i64 j ∧ q = .int .i64 (k + 2 * j) ∧ w = wr) (fun _ i _ => n - (intOf i).toNat)
    case atStart => exact ⟨0, Nat.zero_le _, rfl, by simp, by first | rfl | trivial⟩
    case round =>
      obtain ⟨j, hj, rfl, rfl, rfl⟩ := hrel
      by_cases hlt : j < n
      · have hkn : (j : Int) < (n : Int) := by omega
        have c0 := R.out.cell j hlt
        have hv := R.out.val j hlt
        have HM := Lib.hid (heldrow _ (k + 2 * (j : Int)) w hv (by omega) (by omega))
        generalize bs j = x at c0 HM
        clear hv
        go_wp2_with (go_at_call 60; refine HM.out.mono ?_; rintro e w2 ⟨rfl, rfl⟩)
        go_roundw
        case rel => exact ⟨j + 1, by omega, by go_num, by congr 1; omega, by first | rfl | trivial⟩
        case measure => simp [intOf]; omega
      · obtain rfl : j = n := by omega
        go_wp2
        go_ret
        exact ⟨rfl, rfl⟩
end Go.Proofs.YtbfhnfoaipaljaaDoor
