/- A law's own words on slices of sectors: their size, their copy, their comparison. -/
import Derived.Test.YtclbpjjnhfllkaaSct
import Derived.Deep.RegionHeld3
namespace Go.Proofs.Ytclbpjjnhfllkaa
open Go.ChangeShapes Go.WideShapes Go.ChangeAt Go.RowKit Pm

theorem cell_puts {w : World} {a : Addr} {v x : Value} {b j : Nat} (n : a.block ≠ b) (h : w.cell? a = some v) : (w.setCell ⟨b, j, none⟩ x).cell? a = some v := by
  rw [World.cell?_setCell_other _ _ _ _ (by intro e; exact n (by rw [← e]))]; exact h
theorem cell_swaps {w : World} {a : Addr} {v : Value} {o o' : Obj} (n : a.block ≠ w.heap.size) (h : (w.alloc o).cell? a = some v) : (w.alloc o').cell? a = some v := by
  rw [World.cell?_alloc_old _ _ _ n] at h ⊢; exact h
theorem below_swaps {w0 w : World} {o o' : Obj} (n : w0.heap.size ≤ w.heap.size) (h : Below w0.heap.size w0 (w.alloc o)) : Below w0.heap.size w0 (w.alloc o') := by
  refine ⟨h.os, h.tape, h.output, ?_, ?_⟩
  · have := h.size; simp at this ⊢; omega
  · intro k hk
    have e := h.block k hk
    rw [Below.heap_alloc _ _ _ (by omega)] at e ⊢
    exact e
theorem keepA6s {w0 w : World} {a0 a1 a2 a3 a4 a5 : Addr} {v0 v1 v2 v3 v4 v5 : Value} {o : Obj} (h : w.cell? a0 = some v0 ∧ w.cell? a1 = some v1 ∧ w.cell? a2 = some v2 ∧ w.cell? a3 = some v3 ∧ w.cell? a4 = some v4 ∧ w.cell? a5 = some v5 ∧ Below w0.heap.size w0 w) : (w.alloc o).cell? a0 = some v0 ∧ (w.alloc o).cell? a1 = some v1 ∧ (w.alloc o).cell? a2 = some v2 ∧ (w.alloc o).cell? a3 = some v3 ∧ (w.alloc o).cell? a4 = some v4 ∧ (w.alloc o).cell? a5 = some v5 ∧ Below w0.heap.size w0 (w.alloc o) :=
  keep6 ((Below.refl _ _).alloc (Nat.le_refl _) _) h
theorem keepP6s {w0 w : World} {a0 a1 a2 a3 a4 a5 : Addr} {v0 v1 v2 v3 v4 v5 x y z : Value} {b : Nat} (hB : w0.heap.size ≤ b) (n0 : a0.block ≠ b) (n1 : a1.block ≠ b) (n2 : a2.block ≠ b) (n3 : a3.block ≠ b) (n4 : a4.block ≠ b) (n5 : a5.block ≠ b) (h : w.cell? a0 = some v0 ∧ w.cell? a1 = some v1 ∧ w.cell? a2 = some v2 ∧ w.cell? a3 = some v3 ∧ w.cell? a4 = some v4 ∧ w.cell? a5 = some v5 ∧ Below w0.heap.size w0 w) : (((w.setCell ⟨b, 0, none⟩ x).setCell ⟨b, 1, none⟩ y).setCell ⟨b, 2, none⟩ z).cell? a0 = some v0 ∧ (((w.setCell ⟨b, 0, none⟩ x).setCell ⟨b, 1, none⟩ y).setCell ⟨b, 2, none⟩ z).cell? a1 = some v1 ∧ (((w.setCell ⟨b, 0, none⟩ x).setCell ⟨b, 1, none⟩ y).setCell ⟨b, 2, none⟩ z).cell? a2 = some v2 ∧ (((w.setCell ⟨b, 0, none⟩ x).setCell ⟨b, 1, none⟩ y).setCell ⟨b, 2, none⟩ z).cell? a3 = some v3 ∧ (((w.setCell ⟨b, 0, none⟩ x).setCell ⟨b, 1, none⟩ y).setCell ⟨b, 2, none⟩ z).cell? a4 = some v4 ∧ (((w.setCell ⟨b, 0, none⟩ x).setCell ⟨b, 1, none⟩ y).setCell ⟨b, 2, none⟩ z).cell? a5 = some v5 ∧ Below w0.heap.size w0 (((w.setCell ⟨b, 0, none⟩ x).setCell ⟨b, 1, none⟩ y).setCell ⟨b, 2, none⟩ z) := by
  obtain ⟨h0, h1, h2, h3, h4, h5, hb⟩ := h
  exact ⟨cell_puts n0 (cell_puts n0 (cell_puts n0 h0)), cell_puts n1 (cell_puts n1 (cell_puts n1 h1)), cell_puts n2 (cell_puts n2 (cell_puts n2 h2)), cell_puts n3 (cell_puts n3 (cell_puts n3 h3)), cell_puts n4 (cell_puts n4 (cell_puts n4 h4)), cell_puts n5 (cell_puts n5 (cell_puts n5 h5)), ((hb.setCell hB _).setCell hB _).setCell hB _⟩
theorem keepX6s {w0 w : World} {a0 a1 a2 a3 a4 a5 : Addr} {v0 v1 v2 v3 v4 v5 : Value} {o o' : Obj} (hB : w0.heap.size ≤ w.heap.size) (n0 : a0.block ≠ w.heap.size) (n1 : a1.block ≠ w.heap.size) (n2 : a2.block ≠ w.heap.size) (n3 : a3.block ≠ w.heap.size) (n4 : a4.block ≠ w.heap.size) (n5 : a5.block ≠ w.heap.size) (h : (w.alloc o).cell? a0 = some v0 ∧ (w.alloc o).cell? a1 = some v1 ∧ (w.alloc o).cell? a2 = some v2 ∧ (w.alloc o).cell? a3 = some v3 ∧ (w.alloc o).cell? a4 = some v4 ∧ (w.alloc o).cell? a5 = some v5 ∧ Below w0.heap.size w0 (w.alloc o)) : (w.alloc o').cell? a0 = some v0 ∧ (w.alloc o').cell? a1 = some v1 ∧ (w.alloc o').cell? a2 = some v2 ∧ (w.alloc o').cell? a3 = some v3 ∧ (w.alloc o').cell? a4 = some v4 ∧ (w.alloc o').cell? a5 = some v5 ∧ Below w0.heap.size w0 (w.alloc o') := by
  obtain ⟨h0, h1, h2, h3, h4, h5, hb⟩ := h
  exact ⟨cell_swaps n0 h0, cell_swaps n1 h1, cell_swaps n2 h2, cell_swaps n3 h3, cell_swaps n4 h4, cell_swaps n5 h5, below_swaps hB hb⟩
/-- What is left of a size behind a list of sectors. -/
def SzS (ps : List Sec) (left r : Int) : Prop := r = -1 ∨ (0 ≤ r ∧ r ≤ left ∧ ps.length ≤ left ∧ ∀ i, i < ps.length → (ps.getD i sec0).2.2.size ≤ left)
set_option maxHeartbeats 1000000 in
theorem szsecs_any (a : Option Addr) (n c : Nat) (ps : List Sec) (left : Int) (w : World) (h : ArgSec w a n ps) (hm : n ≤ maxLen) (hs : ∀ i, i < ps.length → (ps.getD i sec0).2.2.size ≤ maxLen) (h0 : 0 ≤ left) (h1 : left ≤ 1048576) :
    Calls Try.prog 17 #[.slice a n c, .int .i64 left] w fun e w' => ∃ r, SzS ps left r ∧ e = .returned (.int .i64 r) ∧ Below w.heap.size w w' := by
  unfold maxLen at hm
  obtain ⟨rfl, h⟩ := h
  by_cases hl : left < (ps.length : Int)
  · have h2 : left - (ps.length : Int) < 0 := by omega
    clear h hs
    go_enter Try.func17, Try.ntmps17
    go_wp2
    go_ret
    exact ⟨-1, .inl rfl, rfl, Below.refl _ _⟩
  · have h2 : ¬ left - (ps.length : Int) < 0 := by omega
    have hl2 : (ps.length : Int) ≤ left := by omega
    rcases h with rfl | ⟨b, off, rfl, hc⟩
    · clear hs
      go_enter Try.func17, Try.ntmps17
      go_wp2
      go_rounds 1
      go_ret
      exact ⟨_, .inr ⟨by simp at *; omega, by simp, hl2, fun i hi => by simp at hi⟩, rfl, Below.refl _ _⟩
    · have HC := Lib.hid hc
      have HSZ := Lib.hid hs
      clear hc hs
      go_enter Try.func17, Try.ntmps17
      go_wp2_with (fail)
      go_loopw [1, 5] (fun q i wr => ∃ (k : Nat) (z : Int), k ≤ ps.length ∧ i = .int .i64 k ∧ q = .int .i64 z ∧ 0 ≤ z ∧ z ≤ left ∧ (∀ j, j < k → (ps.getD j sec0).2.2.size ≤ left) ∧ Below w.heap.size w wr) (fun _ i _ => ps.length - (intOf i).toNat)
      case atStart => exact ⟨0, _, Nat.zero_le _, rfl, rfl, by omega, by omega, fun j hj => by omega, Below.refl _ _⟩
      case round =>
        obtain ⟨k, z, hk, rfl, rfl, z0, z1, hj, hbel⟩ := hrel
        have HJ := Lib.hid hj
        have HBE := Lib.hid hbel
        clear hj
        by_cases hlt : k < ps.length
        · have hkn : (k : Int) < (ps.length : Int) := by omega
          have c0 := cell_below (HC.out k hlt).1 hbel
          have c1 := cell_below (HC.out k hlt).2.1 hbel
          have c2 := cell_below (HC.out k hlt).2.2 hbel
          have hsz := HSZ.out k hlt
          have HAT := Lib.hid (show ∀ s, s = (ps.getD k sec0).2.2 → (s.size : Int) ≤ left → ∀ j, j < k + 1 → (ps.getD j sec0).2.2.size ≤ left from fun s hs h j hj => by
            by_cases e : j < k
            · exact HJ.out j e
            · obtain rfl : j = k := by omega
              rw [← hs]; exact h)
          generalize hx : (ps.getD k sec0).2.2 = x at c2 hsz HAT
          generalize (ps.getD k sec0).1 = f0 at c0
          generalize (ps.getD k sec0).2.1 = t0 at c1
          clear hx hbel
          have HS := Lib.hid (fun w => szsec_any f0 t0 x z w z0 (by omega) hsz)
          unfold maxLen at hsz
          by_cases hz : z < (x.size : Int)
          · have HS2 := Lib.hid (show ∀ w, Calls Try.prog 13 #[.agg #[.int .i64 f0, .int .i64 t0, .string x], .int .i64 z] w fun e w' => e = .returned (.int .i64 (-1)) ∧ Below w.heap.size w w' from fun w => by have := HS.out w; rwa [if_pos hz] at this)
            clear HS
            go_wp2_with (go_at_call 13; (refine (HS2.out _).mono ?_); rintro e w2 ⟨rfl, hb⟩; have ac := Below.next HBE.out hb; clear hb)
            go_ret
            exact ⟨-1, .inl rfl, rfl, by assumption⟩
          · have HS2 := Lib.hid (show ∀ w, Calls Try.prog 13 #[.agg #[.int .i64 f0, .int .i64 t0, .string x], .int .i64 z] w fun e w' => e = .returned (.int .i64 (z - x.size)) ∧ Below w.heap.size w w' from fun w => by have := HS.out w; rwa [if_neg hz] at this)
            have hz2 : ¬ z - (x.size : Int) < 0 := by omega
            clear HS
            go_wp2_with (go_at_call 13; (refine (HS2.out _).mono ?_); rintro e w2 ⟨rfl, hb⟩; have ac := Below.next HBE.out hb; clear hb)
            go_roundw
            case rel => exact ⟨k + 1, _, by omega, by go_num, rfl, by omega, by omega, HAT.out _ rfl (by omega), by assumption⟩
            case measure => simp [intOf]; omega
        · obtain rfl : k = ps.length := by omega
          clear hbel
          go_wp2
          go_ret
          exact ⟨_, .inr ⟨z0, z1, hl2, HJ.out⟩, rfl, HBE.out⟩

/-- A copy of a list of sectors in memory of its own. -/
def CopySec (ps : List Sec) (w : World) (e : Ending) (w' : World) : Prop := ∃ v, e = .returned v ∧ OwnSec w' w.heap.size v ps ∧ Below w.heap.size w w'
theorem tosecs_nil (a : Option Addr) (c : Nat) (w : World) :
    Calls Try.prog 19 #[.slice a 0 c] w (CopySec [] w) := by
  obtain ⟨i0, hi, hz0, hz1, hz2⟩ := secinfo_parts infoSec
  go_enter Try.func19, Try.ntmps19
  go_wp2_with (at_make; refine wpList_make_full _ rfl _ _ 32 rfl w.heap.size 26 i0 (.agg #[.int .i64 0, .int .i64 0, .string ⟨#[]⟩]) 3 Try.underlying32 hi hz0 hz1 _ _ _ _ 0 rfl rfl rfl rfl (by omega) (by unfold maxLen; omega) (Nat.le_refl _) ?_)
  intro w1 hown hg
  have hb : Below w.heap.size w w1 := (Below.refl _ _).grown hg (Nat.le_refl _) (fun k hk => by cases hk)
  have HO := Lib.hid hown
  have HB := Lib.hid hb
  clear hown hg hb
  go_wp2
  go_rounds 1
  go_ret
  have e : (madeCells #[Value.int .i64 0, Value.int .i64 0, Value.string ⟨#[]⟩] 0).toList = ([] : List Value) := List.length_eq_zero_iff.1 (by have := HO.out.1; simpa using this)
  exact ⟨_, rfl, by have h := HO.out; rw [e] at h; exact h, HB.out⟩

set_option maxHeartbeats 1000000 in
theorem tosecs_row (b off cap : Nat) (ps : List Sec) (w : World) (hn : ps.length ≤ 1048576)
    (hc : ∀ i, i < ps.length → w.cell? ⟨b, off + i * 3, none⟩ = some (.int .i64 (ps.getD i sec0).1) ∧ w.cell? ⟨b, off + i * 3 + 1, none⟩ = some (.int .i64 (ps.getD i sec0).2.1) ∧ w.cell? ⟨b, off + i * 3 + 2, none⟩ = some (.string (ps.getD i sec0).2.2)) :
    Calls Try.prog 19 #[.slice (some ⟨b, off, none⟩) ps.length cap] w (CopySec ps w) := by
  obtain ⟨i0, hi, hz0, hz1, hz2⟩ := secinfo_parts infoSec
  have HC := Lib.hid hc
  clear hc
  go_enter Try.func19, Try.ntmps19
  go_wp2_with (at_make; refine wpList_make_full _ rfl _ _ 32 rfl w.heap.size 26 i0 (.agg #[.int .i64 0, .int .i64 0, .string ⟨#[]⟩]) 3 Try.underlying32 hi hz0 hz1 _ _ _ _ ps.length rfl rfl rfl rfl (by rw [hz2]; omega) (by unfold maxLen; omega) (Nat.le_refl _) ?_)
  intro w1 hown hg
  have hb : Below w.heap.size w w1 := (Below.refl _ _).grown hg (Nat.le_refl _) (fun k hk => by cases hk)
  obtain ⟨xs0, hx0⟩ : ∃ xs0, xs0 = (madeCells #[Value.int .i64 0, Value.int .i64 0, Value.string ⟨#[]⟩] (ps.length * 3)).toList := ⟨_, rfl⟩
  rw [← hx0] at hown
  have hl0 : xs0.length = ps.length * 3 := by have := hown.1; omega
  have HO := Lib.hid hown
  have HB := Lib.hid hb
  clear hown hg hb hx0
  go_wp2_with (fail)
  go_loopw [4] (fun i wr => ∃ (k : Nat) (xs : List Value), k ≤ ps.length ∧ i = .int .i64 k ∧ SecUpto xs (k * 3) (secV ps) ∧ wr.ownsRow w.heap.size 26 3 (.slice (some ⟨w.heap.size, 0, none⟩) ps.length ps.length) ps.length xs ∧ Below w.heap.size w wr) (fun i _ => ps.length - (intOf i).toNat)
  case atStart => exact ⟨0, xs0, Nat.zero_le _, rfl, ⟨by rw [secV_len]; exact hl0, fun j hj => by omega⟩, HO.out, HB.out⟩
  case round =>
    obtain ⟨k, xs, hk, rfl, hup, hown, hbel⟩ := hrel
    have HU := Lib.hid hup
    have HOW := Lib.hid hown
    have HBE := Lib.hid hbel
    clear hup hown
    by_cases hlt : k < ps.length
    · have c0 := cell_below (HC.out k hlt).1 hbel
      have c1 := cell_below (HC.out k hlt).2.1 hbel
      have c2 := cell_below (HC.out k hlt).2.2 hbel
      obtain ⟨v0, v1, v2⟩ := secV_at ps k hlt
      have hlen := secV_len ps
      have u1 := HU.out.step (u := .int .i64 (ps.getD k sec0).1) (by omega) v0
      have u2 := u1.step (u := .int .i64 (ps.getD k sec0).2.1) (by omega) v1
      have u3 := u2.step (u := .string (ps.getD k sec0).2.2) (by omega) v2
      generalize (ps.getD k sec0).1 = x at *
      generalize (ps.getD k sec0).2.1 = y at *
      generalize (ps.getD k sec0).2.2 = s at *
      have HU2 := Lib.hid u3
      clear u1 u2 u3 v0 v1 v2 hbel hlen
      have hkn : (k : Int) < (ps.length : Int) := by omega
      go_wp2_with (go_at_call 15; refine (tosec_any _ _ _ _).mono ?_; rintro e w2 ⟨rfl, hb⟩; refine Hid.out ?_)
      refine Lib.hid ?_
      have ho2 : w2.ownsRow w.heap.size 26 3 (.slice (some ⟨w.heap.size, 0, none⟩) ps.length ps.length) ps.length xs := by
        refine ⟨HOW.out.1, ?_⟩
        rcases HOW.out.2 with h2 | ⟨g, cap, cur, h1, h3, h4, h5⟩
        · exact .inl h2
        · refine .inr ⟨g, cap, cur, h1, h3, ?_, h5⟩
          have hlt : g < wr.heap.size := by
            rcases Nat.lt_or_ge g wr.heap.size with h' | h'
            · exact h'
            · rw [Array.getElem?_eq_none h'] at h4; cases h4
          rw [hb.block g hlt]; exact h4
      have hb2 := HBE.out.trans (hb.mono HBE.out.size)
      have hxl : xs.length = ps.length * 3 := by have := HU.out.1; rw [secV_len] at this; exact this
      obtain ⟨z0, o0⟩ : ∃ z, w2.cell? ⟨w.heap.size, k * 3, none⟩ = some z := ⟨_, (ho2.cellAt (k * 3) (by omega)).trans (List.getElem?_eq_getElem (by omega))⟩
      obtain ⟨z1, o1⟩ : ∃ z, w2.cell? ⟨w.heap.size, k * 3 + 1, none⟩ = some z := ⟨_, (ho2.cellAt (k * 3 + 1) (by omega)).trans (List.getElem?_eq_getElem (by omega))⟩
      obtain ⟨z2, o2⟩ : ∃ z, w2.cell? ⟨w.heap.size, k * 3 + 2, none⟩ = some z := ⟨_, (ho2.cellAt (k * 3 + 2) (by omega)).trans (List.getElem?_eq_getElem (by omega))⟩
      have f0 := ho2.frozenAt (k * 3)
      have f1 := ho2.frozenAt (k * 3 + 1)
      have f2 := ho2.frozenAt (k * 3 + 2)
      have HST := Lib.hid (((ho2.stored (k * 3) (.int .i64 x)).1.stored (k * 3 + 1) (.int .i64 y)).1.stored (k * 3 + 2) (.string s)).1
      have HB2 := Lib.hid (((hb2.setCell (p := ⟨w.heap.size, k * 3, none⟩) (Nat.le_refl _) (.int .i64 x)).setCell (p := ⟨w.heap.size, k * 3 + 1, none⟩) (Nat.le_refl _) (.int .i64 y)).setCell (p := ⟨w.heap.size, k * 3 + 2, none⟩) (Nat.le_refl _) (.string s))
      clear hb ho2 hb2 c0 c1 c2 hxl
      go_wp2_with (fail)
      go_roundw
      case rel => exact ⟨k + 1, _, by omega, by go_num, by rw [show (k + 1) * 3 = k * 3 + 1 + 1 + 1 by omega]; exact HU2.out, HST.out, HB2.out⟩
      case measure => simp [intOf]; omega
    · obtain rfl : k = ps.length := by omega
      have hx : xs = secV ps := by
        have h := HU.out
        rw [← secV_len] at h
        exact h.all
      have HOX := Lib.hid (hx ▸ HOW.out)
      clear hbel hx
      go_wp2
      go_ret
      exact ⟨_, rfl, HOX.out, HBE.out⟩
theorem tosecs_any (a : Option Addr) (n c : Nat) (ps : List Sec) (w : World) (h : ArgSec w a n ps) (hn : ps.length ≤ 1048576) :
    Calls Try.prog 19 #[.slice a n c] w (CopySec ps w) := by
  obtain ⟨rfl, h⟩ := h
  rcases h with rfl | ⟨b, off, rfl, h2⟩
  · exact tosecs_nil a c w
  · exact tosecs_row b off c ps w hn h2

set_option maxHeartbeats 4000000 in
theorem eqsecs_at (a1 a2 : Option Addr) (c1 c2 : Nat) (ps : List Sec) (w : World) (hn : ps.length ≤ 1048576) (h1 : ArgSec w a1 ps.length ps) (h2 : ArgSec w a2 ps.length ps) :
    Calls Try.prog 21 #[.slice a1 ps.length c1, .slice a2 ps.length c2] w fun e w' => e = .returned (.bool true) ∧ Below w.heap.size w w' := by
  by_cases h0 : ps.length = 0
  · have hnil : ps = [] := List.length_eq_zero_iff.1 h0
    subst hnil
    clear h1 h2 h0
    go_enter Try.func21, Try.ntmps21
    go_wp2
    go_rounds 1
    go_ret
    exact ⟨rfl, Below.refl _ _⟩
  · obtain ⟨b, off, rfl, H1⟩ := h1.2.resolve_left (by intro e; rw [e] at h0; exact h0 rfl)
    obtain ⟨b', off', rfl, H2⟩ := h2.2.resolve_left (by intro e; rw [e] at h0; exact h0 rfl)
    have HC := Lib.hid H1
    have HD := Lib.hid H2
    clear H1 H2 h0 h1 h2
    go_enter Try.func21, Try.ntmps21
    go_wp2_with (fail)
    go_loopw [5] (fun i wr => ∃ k : Nat, k ≤ ps.length ∧ i = .int .i64 k ∧ Below w.heap.size w wr) (fun i _ => ps.length - (intOf i).toNat)
    case atStart => exact ⟨0, Nat.zero_le _, rfl, by go_grown⟩
    case round =>
      obtain ⟨k, hk, rfl, hbel⟩ := hrel
      by_cases hlt : k < ps.length
      · have hkn : (k : Int) < (ps.length : Int) := by omega
        have e0 := cell_below (HC.out k hlt).1 hbel
        have e1 := cell_below (HC.out k hlt).2.1 hbel
        have e2 := cell_below (HC.out k hlt).2.2 hbel
        have e3 := cell_below (HD.out k hlt).1 hbel
        have e4 := cell_below (HD.out k hlt).2.1 hbel
        have e5 := cell_below (HD.out k hlt).2.2 hbel
        generalize (ps.getD k sec0).1 = x at *
        generalize (ps.getD k sec0).2.1 = y at *
        generalize (ps.getD k sec0).2.2 = s at *
        go_wp2_with (fail)
        go_region_held3 (fun w' => w'.cell? ⟨b, off + k * 3, none⟩ = some (.int .i64 x) ∧ w'.cell? ⟨b, off + k * 3 + 1, none⟩ = some (.int .i64 y) ∧ w'.cell? ⟨b, off + k * 3 + 2, none⟩ = some (.string s) ∧ w'.cell? ⟨b', off' + k * 3, none⟩ = some (.int .i64 x) ∧ w'.cell? ⟨b', off' + k * 3 + 1, none⟩ = some (.int .i64 y) ∧ w'.cell? ⟨b', off' + k * 3 + 2, none⟩ = some (.string s) ∧ Below w.heap.size w w')
          (first | assumption | exact keep6 (by assumption) (by assumption) | exact drew6 (by assumption) | exact keepA6s (by assumption) | exact drew6 (keepA6s (by assumption)) | ((refine keepP6s ?_ ?_ ?_ ?_ ?_ ?_ ?_ (by assumption)) <;> (first | omega | (simp; done) | (simp; omega))) | ((refine keepX6s ?_ ?_ ?_ ?_ ?_ ?_ ?_ (by assumption)) <;> (first | omega | (simp; done) | (simp; omega))) | ((refine drew6 (keepX6s ?_ ?_ ?_ ?_ ?_ ?_ ?_ (by assumption))) <;> (first | omega | (simp; done) | (simp; omega))) | (refine ⟨?_, ?_, ?_, ?_, ?_, ?_, ?_⟩ <;> (first | (go_cell; done) | (go_grown; done))))
          (first
            | (go_at_call 43; refine (eqsec_any _ _ _ _).mono ?_; rintro e w3 ⟨rfl, hb⟩))
        all_goals
          go_wp2
          go_roundw
          case rel => exact ⟨k + 1, by omega, by go_num, keepB6 (by assumption)⟩
          case measure => simp [intOf]; omega
      · have hge : ¬ (k : Int) < (ps.length : Int) := by omega
        have HBE := Lib.hid hbel
        clear hbel
        go_wp2
        go_ret
        exact ⟨rfl, HBE.out⟩
theorem eqsecs_same (v1 v2 : Value) (ps : List Sec) (w : World) (hn : ps.length ≤ 1048576) (h1 : SecAre w v1 ps) (h2 : SecAre w v2 ps) :
    Calls Try.prog 21 #[v1, v2] w fun e w' => e = .returned (.bool true) ∧ Below w.heap.size w w' := by
  obtain ⟨a1, c1, rfl, h1⟩ := h1
  obtain ⟨a2, c2, rfl, h2⟩ := h2
  exact eqsecs_at a1 a2 c1 c2 ps w hn h1 h2
end Go.Proofs.Ytclbpjjnhfllkaa
