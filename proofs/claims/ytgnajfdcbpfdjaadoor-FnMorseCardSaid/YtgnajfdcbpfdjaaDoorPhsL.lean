/- A law's own words on slices of phases: their size, their copy, their comparison. -/
import Derived.Test.YtgnajfdcbpfdjaaDoorPhs
import Derived.Deep.RegionHeld3
namespace Go.Proofs.YtgnajfdcbpfdjaaDoor
open Go.ChangeShapes Go.WideShapes Go.ChangeAt Go.RowKit Pm

theorem cell_putq {w : World} {a : Addr} {v x : Value} {b j : Nat} (n : a.block ≠ b) (h : w.cell? a = some v) : (w.setCell ⟨b, j, none⟩ x).cell? a = some v := by
  rw [World.cell?_setCell_other _ _ _ _ (by intro e; exact n (by rw [← e]))]; exact h
theorem cell_swapq {w : World} {a : Addr} {v : Value} {o o' : Obj} (n : a.block ≠ w.heap.size) (h : (w.alloc o).cell? a = some v) : (w.alloc o').cell? a = some v := by
  rw [World.cell?_alloc_old _ _ _ n] at h ⊢; exact h
theorem below_swapq {w0 w : World} {o o' : Obj} (n : w0.heap.size ≤ w.heap.size) (h : Below w0.heap.size w0 (w.alloc o)) : Below w0.heap.size w0 (w.alloc o') := by
  refine ⟨h.os, h.tape, h.output, ?_, ?_⟩
  · have := h.size; simp at this ⊢; omega
  · intro k hk
    have e := h.block k hk
    rw [Below.heap_alloc _ _ _ (by omega)] at e ⊢
    exact e
theorem keepA4q {w0 w : World} {a0 a1 a2 a3 : Addr} {v0 v1 v2 v3 : Value} {o : Obj} (h : w.cell? a0 = some v0 ∧ w.cell? a1 = some v1 ∧ w.cell? a2 = some v2 ∧ w.cell? a3 = some v3 ∧ Below w0.heap.size w0 w) : (w.alloc o).cell? a0 = some v0 ∧ (w.alloc o).cell? a1 = some v1 ∧ (w.alloc o).cell? a2 = some v2 ∧ (w.alloc o).cell? a3 = some v3 ∧ Below w0.heap.size w0 (w.alloc o) :=
  keep4 ((Below.refl _ _).alloc (Nat.le_refl _) _) h
theorem keepP4q {w0 w : World} {a0 a1 a2 a3 : Addr} {v0 v1 v2 v3 x y : Value} {b : Nat} (hB : w0.heap.size ≤ b) (n0 : a0.block ≠ b) (n1 : a1.block ≠ b) (n2 : a2.block ≠ b) (n3 : a3.block ≠ b) (h : w.cell? a0 = some v0 ∧ w.cell? a1 = some v1 ∧ w.cell? a2 = some v2 ∧ w.cell? a3 = some v3 ∧ Below w0.heap.size w0 w) : ((w.setCell ⟨b, 0, none⟩ x).setCell ⟨b, 1, none⟩ y).cell? a0 = some v0 ∧ ((w.setCell ⟨b, 0, none⟩ x).setCell ⟨b, 1, none⟩ y).cell? a1 = some v1 ∧ ((w.setCell ⟨b, 0, none⟩ x).setCell ⟨b, 1, none⟩ y).cell? a2 = some v2 ∧ ((w.setCell ⟨b, 0, none⟩ x).setCell ⟨b, 1, none⟩ y).cell? a3 = some v3 ∧ Below w0.heap.size w0 ((w.setCell ⟨b, 0, none⟩ x).setCell ⟨b, 1, none⟩ y) := by
  obtain ⟨h0, h1, h2, h3, hb⟩ := h
  exact ⟨cell_putq n0 (cell_putq n0 h0), cell_putq n1 (cell_putq n1 h1), cell_putq n2 (cell_putq n2 h2), cell_putq n3 (cell_putq n3 h3), (hb.setCell hB _).setCell hB _⟩
theorem keepX4q {w0 w : World} {a0 a1 a2 a3 : Addr} {v0 v1 v2 v3 : Value} {o o' : Obj} (hB : w0.heap.size ≤ w.heap.size) (n0 : a0.block ≠ w.heap.size) (n1 : a1.block ≠ w.heap.size) (n2 : a2.block ≠ w.heap.size) (n3 : a3.block ≠ w.heap.size) (h : (w.alloc o).cell? a0 = some v0 ∧ (w.alloc o).cell? a1 = some v1 ∧ (w.alloc o).cell? a2 = some v2 ∧ (w.alloc o).cell? a3 = some v3 ∧ Below w0.heap.size w0 (w.alloc o)) : (w.alloc o').cell? a0 = some v0 ∧ (w.alloc o').cell? a1 = some v1 ∧ (w.alloc o').cell? a2 = some v2 ∧ (w.alloc o').cell? a3 = some v3 ∧ Below w0.heap.size w0 (w.alloc o') := by
  obtain ⟨h0, h1, h2, h3, hb⟩ := h
  exact ⟨cell_swapq n0 h0, cell_swapq n1 h1, cell_swapq n2 h2, cell_swapq n3 h3, below_swapq hB hb⟩
/-- What is left of a size behind a list of phases. -/
def SzR (ps : List Ph) (left r : Int) : Prop := r = -1 ∨ (0 ≤ r ∧ r ≤ left ∧ ps.length ≤ left ∧ ∀ i, i < ps.length → (ps.getD i ph0).1.size ≤ left)
set_option maxHeartbeats 1000000 in
theorem szphs_any (a : Option Addr) (n c : Nat) (ps : List Ph) (left : Int) (w : World) (h : ArgPh w a n ps) (hm : n ≤ maxLen) (hs : ∀ i, i < ps.length → (ps.getD i ph0).1.size ≤ maxLen) (h0 : 0 ≤ left) (h1 : left ≤ 1048576) :
    Calls Tryd.prog 11 #[.slice a n c, .int .i64 left] w fun e w' => ∃ r, SzR ps left r ∧ e = .returned (.int .i64 r) ∧ Below w.heap.size w w' := by
  unfold maxLen at hm
  obtain ⟨rfl, h⟩ := h
  by_cases hl : left < (ps.length : Int)
  · have h2 : left - (ps.length : Int) < 0 := by omega
    clear h hs
    go_enter Tryd.func11, Tryd.ntmps11
    go_wp2
    go_ret
    exact ⟨-1, .inl rfl, rfl, Below.refl _ _⟩
  · have h2 : ¬ left - (ps.length : Int) < 0 := by omega
    have hl2 : (ps.length : Int) ≤ left := by omega
    rcases h with rfl | ⟨b, off, rfl, hc⟩
    · clear hs
      go_enter Tryd.func11, Tryd.ntmps11
      go_wp2
      go_rounds 1
      go_ret
      exact ⟨_, .inr ⟨by simp at *; omega, by simp, hl2, fun i hi => by simp at hi⟩, rfl, Below.refl _ _⟩
    · have HC := Lib.hid hc
      have HSZ := Lib.hid hs
      clear hc hs
      go_enter Tryd.func11, Tryd.ntmps11
      go_wp2_with (fail)
      go_loopw [1, 5] (fun q i wr => ∃ (k : Nat) (z : Int), k ≤ ps.length ∧ i = .int .i64 k ∧ q = .int .i64 z ∧ 0 ≤ z ∧ z ≤ left ∧ (∀ j, j < k → (ps.getD j ph0).1.size ≤ left) ∧ Below w.heap.size w wr) (fun _ i _ => ps.length - (intOf i).toNat)
      case atStart => exact ⟨0, _, Nat.zero_le _, rfl, rfl, by omega, by omega, fun j hj => by omega, Below.refl _ _⟩
      case round =>
        obtain ⟨k, z, hk, rfl, rfl, z0, z1, hj, hbel⟩ := hrel
        have HJ := Lib.hid hj
        have HBE := Lib.hid hbel
        clear hj
        by_cases hlt : k < ps.length
        · have hkn : (k : Int) < (ps.length : Int) := by omega
          have c0 := cell_below (HC.out k hlt).1 hbel
          have c1 := cell_below (HC.out k hlt).2 hbel
          have hsz := HSZ.out k hlt
          have HAT := Lib.hid (show ∀ s, s = (ps.getD k ph0).1 → (s.size : Int) ≤ left → ∀ j, j < k + 1 → (ps.getD j ph0).1.size ≤ left from fun s hs h j hj => by
            by_cases e : j < k
            · exact HJ.out j e
            · obtain rfl : j = k := by omega
              rw [← hs]; exact h)
          generalize hx : (ps.getD k ph0).1 = x at c0 hsz HAT
          generalize (ps.getD k ph0).2 = y at c1
          clear hx hbel
          have HS := Lib.hid (fun w => szph_any x y z w z0 (by omega) hsz)
          unfold maxLen at hsz
          by_cases hz : z < (x.size : Int)
          · have HS2 := Lib.hid (show ∀ w, Calls Tryd.prog 31 #[.agg #[.string x, .int .i64 y], .int .i64 z] w fun e w' => e = .returned (.int .i64 (-1)) ∧ Below w.heap.size w w' from fun w => by have := HS.out w; rwa [if_pos hz] at this)
            clear HS
            go_wp2_with (go_at_call 31; (refine (HS2.out _).mono ?_); rintro e w2 ⟨rfl, hb⟩; have ac := Below.next HBE.out hb; clear hb)
            go_ret
            exact ⟨-1, .inl rfl, rfl, by assumption⟩
          · have HS2 := Lib.hid (show ∀ w, Calls Tryd.prog 31 #[.agg #[.string x, .int .i64 y], .int .i64 z] w fun e w' => e = .returned (.int .i64 (z - x.size)) ∧ Below w.heap.size w w' from fun w => by have := HS.out w; rwa [if_neg hz] at this)
            have hz2 : ¬ z - (x.size : Int) < 0 := by omega
            clear HS
            go_wp2_with (go_at_call 31; (refine (HS2.out _).mono ?_); rintro e w2 ⟨rfl, hb⟩; have ac := Below.next HBE.out hb; clear hb)
            go_roundw
            case rel => exact ⟨k + 1, _, by omega, by go_num, rfl, by omega, by omega, HAT.out _ rfl (by omega), by assumption⟩
            case measure => simp [intOf]; omega
        · obtain rfl : k = ps.length := by omega
          clear hbel
          go_wp2
          go_ret
          exact ⟨_, .inr ⟨z0, z1, hl2, HJ.out⟩, rfl, HBE.out⟩

/-- A copy of a list of phases in memory of its own. -/
def CopyPh (ps : List Ph) (w : World) (e : Ending) (w' : World) : Prop := ∃ v, e = .returned v ∧ OwnPh w' w.heap.size v ps ∧ Below w.heap.size w w'
theorem tophs_nil (a : Option Addr) (c : Nat) (w : World) :
    Calls Tryd.prog 13 #[.slice a 0 c] w (CopyPh [] w) := by
  obtain ⟨i0, hi, hz0, hz1, hz2⟩ := phinfo_parts infoPh
  go_enter Tryd.func13, Tryd.ntmps13
  go_wp2_with (at_make; refine wpList_make_full _ rfl _ _ 32 rfl w.heap.size 45 i0 (.agg #[.string ⟨#[]⟩, .int .i64 0]) 2 Tryd.underlying32 hi hz0 hz1 _ _ _ _ 0 rfl rfl rfl rfl (by omega) (by unfold maxLen; omega) (Nat.le_refl _) ?_)
  intro w1 hown hg
  have hb : Below w.heap.size w w1 := (Below.refl _ _).grown hg (Nat.le_refl _) (fun k hk => by cases hk)
  have HO := Lib.hid hown
  have HB := Lib.hid hb
  clear hown hg hb
  go_wp2
  go_rounds 1
  go_ret
  have e : (madeCells #[Value.string ⟨#[]⟩, Value.int .i64 0] 0).toList = ([] : List Value) := List.length_eq_zero_iff.1 (by have := HO.out.1; simpa using this)
  exact ⟨_, rfl, by have h := HO.out; rw [e] at h; exact h, HB.out⟩

set_option maxHeartbeats 1000000 in
theorem tophs_row (b off cap : Nat) (ps : List Ph) (w : World) (hn : ps.length ≤ 1048576)
    (hc : ∀ i, i < ps.length → w.cell? ⟨b, off + i * 2, none⟩ = some (.string (ps.getD i ph0).1) ∧ w.cell? ⟨b, off + i * 2 + 1, none⟩ = some (.int .i64 (ps.getD i ph0).2)) :
    Calls Tryd.prog 13 #[.slice (some ⟨b, off, none⟩) ps.length cap] w (CopyPh ps w) := by
  obtain ⟨i0, hi, hz0, hz1, hz2⟩ := phinfo_parts infoPh
  have HC := Lib.hid hc
  clear hc
  go_enter Tryd.func13, Tryd.ntmps13
  go_wp2_with (at_make; refine wpList_make_full _ rfl _ _ 32 rfl w.heap.size 45 i0 (.agg #[.string ⟨#[]⟩, .int .i64 0]) 2 Tryd.underlying32 hi hz0 hz1 _ _ _ _ ps.length rfl rfl rfl rfl (by rw [hz2]; omega) (by unfold maxLen; omega) (Nat.le_refl _) ?_)
  intro w1 hown hg
  have hb : Below w.heap.size w w1 := (Below.refl _ _).grown hg (Nat.le_refl _) (fun k hk => by cases hk)
  obtain ⟨xs0, hx0⟩ : ∃ xs0, xs0 = (madeCells #[Value.string ⟨#[]⟩, Value.int .i64 0] (ps.length * 2)).toList := ⟨_, rfl⟩
  rw [← hx0] at hown
  have hl0 : xs0.length = ps.length * 2 := by have := hown.1; omega
  have HO := Lib.hid hown
  have HB := Lib.hid hb
  clear hown hg hb hx0
  go_wp2_with (fail)
  go_loopw [4] (fun i wr => ∃ (k : Nat) (xs : List Value), k ≤ ps.length ∧ i = .int .i64 k ∧ PhUpto xs (k * 2) (phV ps) ∧ wr.ownsRow w.heap.size 45 2 (.slice (some ⟨w.heap.size, 0, none⟩) ps.length ps.length) ps.length xs ∧ Below w.heap.size w wr) (fun i _ => ps.length - (intOf i).toNat)
  case atStart => exact ⟨0, xs0, Nat.zero_le _, rfl, ⟨by rw [phV_len]; exact hl0, fun j hj => by omega⟩, HO.out, HB.out⟩
  case round =>
    obtain ⟨k, xs, hk, rfl, hup, hown, hbel⟩ := hrel
    have HU := Lib.hid hup
    have HOW := Lib.hid hown
    have HBE := Lib.hid hbel
    clear hup hown
    by_cases hlt : k < ps.length
    · have c0 := cell_below (HC.out k hlt).1 hbel
      have c1 := cell_below (HC.out k hlt).2 hbel
      obtain ⟨v0, v1⟩ := phV_at ps k hlt
      have hlen := phV_len ps
      have u1 := HU.out.step (u := .string (ps.getD k ph0).1) (by omega) v0
      have u2 := u1.step (u := .int .i64 (ps.getD k ph0).2) (by omega) v1
      generalize (ps.getD k ph0).1 = x at *
      generalize (ps.getD k ph0).2 = y at *
      have HU2 := Lib.hid u2
      clear u1 u2 v0 v1 hbel hlen
      have hkn : (k : Int) < (ps.length : Int) := by omega
      go_wp2_with (go_at_call 36; refine (toph_any _ _ _).mono ?_; rintro e w2 ⟨rfl, hb⟩; refine Hid.out ?_)
      refine Lib.hid ?_
      have ho2 : w2.ownsRow w.heap.size 45 2 (.slice (some ⟨w.heap.size, 0, none⟩) ps.length ps.length) ps.length xs := by
        refine ⟨HOW.out.1, ?_⟩
        rcases HOW.out.2 with h2 | ⟨g, cap, cur, h1, h3, h4, h5⟩
        · exact .inl h2
        · refine .inr ⟨g, cap, cur, h1, h3, ?_, h5⟩
          have hlt : g < wr.heap.size := by
            rcases Nat.lt_or_ge g wr.heap.size with h' | h'
            · exact h'
            · rw [Array.getElem?_eq_none h'] at h4; cases h4
          rw [hb.block g hlt]; exact h4
      have hb2 := HBE.out.trans (hb.mono HBE.out.size)
      have hxl : xs.length = ps.length * 2 := by have := HU.out.1; rw [phV_len] at this; exact this
      obtain ⟨z0, o0⟩ : ∃ z, w2.cell? ⟨w.heap.size, k * 2, none⟩ = some z := ⟨_, (ho2.cellAt (k * 2) (by omega)).trans (List.getElem?_eq_getElem (by omega))⟩
      obtain ⟨z1, o1⟩ : ∃ z, w2.cell? ⟨w.heap.size, k * 2 + 1, none⟩ = some z := ⟨_, (ho2.cellAt (k * 2 + 1) (by omega)).trans (List.getElem?_eq_getElem (by omega))⟩
      have f0 := ho2.frozenAt (k * 2)
      have f1 := ho2.frozenAt (k * 2 + 1)
      have HST := Lib.hid ((ho2.stored (k * 2) (.string x)).1.stored (k * 2 + 1) (.int .i64 y)).1
      have HB2 := Lib.hid ((hb2.setCell (p := ⟨w.heap.size, k * 2, none⟩) (Nat.le_refl _) (.string x)).setCell (p := ⟨w.heap.size, k * 2 + 1, none⟩) (Nat.le_refl _) (.int .i64 y))
      clear hb ho2 hb2 c0 c1 hxl
      go_wp2_with (fail)
      go_roundw
      case rel => exact ⟨k + 1, _, by omega, by go_num, by rw [show (k + 1) * 2 = k * 2 + 1 + 1 by omega]; exact HU2.out, HST.out, HB2.out⟩
      case measure => simp [intOf]; omega
    · obtain rfl : k = ps.length := by omega
      have hx : xs = phV ps := by
        have h := HU.out
        rw [← phV_len] at h
        exact h.all
      have HOX := Lib.hid (hx ▸ HOW.out)
      clear hbel hx
      go_wp2
      go_ret
      exact ⟨_, rfl, HOX.out, HBE.out⟩
theorem tophs_any (a : Option Addr) (n c : Nat) (ps : List Ph) (w : World) (h : ArgPh w a n ps) (hn : ps.length ≤ 1048576) :
    Calls Tryd.prog 13 #[.slice a n c] w (CopyPh ps w) := by
  obtain ⟨rfl, h⟩ := h
  rcases h with rfl | ⟨b, off, rfl, h2⟩
  · exact tophs_nil a c w
  · exact tophs_row b off c ps w hn h2

theorem eqphs_at (a1 a2 : Option Addr) (c1 c2 : Nat) (ps : List Ph) (w : World) (hn : ps.length ≤ 1048576) (h1 : ArgPh w a1 ps.length ps) (h2 : ArgPh w a2 ps.length ps) :
    Calls Tryd.prog 15 #[.slice a1 ps.length c1, .slice a2 ps.length c2] w fun e w' => e = .returned (.bool true) ∧ Below w.heap.size w w' := by
  by_cases h0 : ps.length = 0
  · have hnil : ps = [] := List.length_eq_zero_iff.1 h0
    subst hnil
    clear h1 h2 h0
    go_enter Tryd.func15, Tryd.ntmps15
    go_wp2
    go_rounds 1
    go_ret
    exact ⟨rfl, Below.refl _ _⟩
  · obtain ⟨b, off, rfl, H1⟩ := h1.2.resolve_left (by intro e; rw [e] at h0; exact h0 rfl)
    obtain ⟨b', off', rfl, H2⟩ := h2.2.resolve_left (by intro e; rw [e] at h0; exact h0 rfl)
    have HC := Lib.hid H1
    have HD := Lib.hid H2
    clear H1 H2 h0 h1 h2
    go_enter Tryd.func15, Tryd.ntmps15
    go_wp2_with (fail)
    go_loopw [5] (fun i wr => ∃ k : Nat, k ≤ ps.length ∧ i = .int .i64 k ∧ Below w.heap.size w wr) (fun i _ => ps.length - (intOf i).toNat)
    case atStart => exact ⟨0, Nat.zero_le _, rfl, by go_grown⟩
    case round =>
      obtain ⟨k, hk, rfl, hbel⟩ := hrel
      by_cases hlt : k < ps.length
      · have hkn : (k : Int) < (ps.length : Int) := by omega
        have e0 := cell_below (HC.out k hlt).1 hbel
        have e1 := cell_below (HC.out k hlt).2 hbel
        have e2 := cell_below (HD.out k hlt).1 hbel
        have e3 := cell_below (HD.out k hlt).2 hbel
        generalize (ps.getD k ph0).1 = x at *
        generalize (ps.getD k ph0).2 = y at *
        go_wp2_with (fail)
        go_region_held3 (fun w' => w'.cell? ⟨b, off + k * 2, none⟩ = some (.string x) ∧ w'.cell? ⟨b, off + k * 2 + 1, none⟩ = some (.int .i64 y) ∧ w'.cell? ⟨b', off' + k * 2, none⟩ = some (.string x) ∧ w'.cell? ⟨b', off' + k * 2 + 1, none⟩ = some (.int .i64 y) ∧ Below w.heap.size w w')
          (first | assumption | exact keep4 (by assumption) (by assumption) | exact drew4 (by assumption) | exact keepA4q (by assumption) | exact drew4 (keepA4q (by assumption)) | ((refine keepP4q ?_ ?_ ?_ ?_ ?_ (by assumption)) <;> (first | omega | (simp; done) | (simp; omega))) | ((refine keepX4q ?_ ?_ ?_ ?_ ?_ (by assumption)) <;> (first | omega | (simp; done) | (simp; omega))) | ((refine drew4 (keepX4q ?_ ?_ ?_ ?_ ?_ (by assumption))) <;> (first | omega | (simp; done) | (simp; omega))) | (refine ⟨?_, ?_, ?_, ?_, ?_⟩ <;> (first | (go_cell; done) | (go_grown; done))))
          (first
            | (go_at_call 39; refine (eqph_any _ _ _).mono ?_; rintro e w3 ⟨rfl, hb⟩))
        all_goals
          go_wp2
          go_roundw
          case rel => exact ⟨k + 1, by omega, by go_num, keepB4 (by assumption)⟩
          case measure => simp [intOf]; omega
      · have hge : ¬ (k : Int) < (ps.length : Int) := by omega
        have HBE := Lib.hid hbel
        clear hbel
        go_wp2
        go_ret
        exact ⟨rfl, HBE.out⟩
theorem eqphs_same (v1 v2 : Value) (ps : List Ph) (w : World) (hn : ps.length ≤ 1048576) (h1 : PhAre w v1 ps) (h2 : PhAre w v2 ps) :
    Calls Tryd.prog 15 #[v1, v2] w fun e w' => e = .returned (.bool true) ∧ Below w.heap.size w w' := by
  obtain ⟨a1, c1, rfl, h1⟩ := h1
  obtain ⟨a2, c2, rfl, h2⟩ := h2
  exact eqphs_at a1 a2 c1 c2 ps w hn h1 h2
end Go.Proofs.YtgnajfdcbpfdjaaDoor
