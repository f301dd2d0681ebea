/- The program's circle: an array of texts in a block of its own. -/
import Derived.Test.YtclbpjjnhfllkaaCir
import Derived.Test.YtclbpjjnhfllkaaKit
import Derived.Test.YtclbpjjnhfllkaaSecW
import Derived.Deep.MidRow
import Derived.Deep.RegionHeld3
namespace Go.Proofs.Ytclbpjjnhfllkaa
open Go.ChangeShapes Go.WideShapes Go.ChangeAt Go.RowKit Pm

/-- The array in a block. -/
def OwnA (w : World) (g : Nat) (L : List ByteArray) : Prop := w.ownsRow g 60 1 (.slice (some ⟨g, 0, none⟩) 360 360) 360 (cirV L)
theorem OwnA.len {w : World} {g : Nat} {L : List ByteArray} (h : OwnA w g L) : L.length = 360 := by
  have := h.1; rw [cirV_len] at this; omega
theorem OwnA.below {w w' : World} {g : Nat} {L : List ByteArray} (h : OwnA w g L) (hb : Below w.heap.size w w') : OwnA w' g L := by
  refine ⟨h.1, ?_⟩
  rcases h.2 with h2 | ⟨g, cap, cur, h1, h3, h4, h5⟩
  · exact .inl h2
  · refine .inr ⟨g, cap, cur, h1, h3, ?_, h5⟩
    have hlt : g < w.heap.size := by
      rcases Nat.lt_or_ge g w.heap.size with h' | h'
      · exact h'
      · rw [Array.getElem?_eq_none h'] at h4; cases h4
    rw [hb.block g hlt]; exact h4
theorem OwnA.cell {w : World} {g : Nat} {L : List ByteArray} (h : OwnA w g L) (i : Nat) (hi : i < 360) : w.cell? ⟨g, i, none⟩ = some (.string (L.getD i e0)) :=
  (World.ownsRow.cellAt h i (by have := h.1; omega)).trans (cirV_at L i (by rw [h.len]; exact hi))
theorem OwnA.frozen {w : World} {g : Nat} {L : List ByteArray} (h : OwnA w g L) (i : Nat) : w.frozen? ⟨g, i, none⟩ = false := World.ownsRow.frozenAt h i
theorem OwnA.put {w : World} {g : Nat} {L : List ByteArray} (h : OwnA w g L) (i : Nat) (c : ByteArray) : OwnA (w.setCell ⟨g, i, none⟩ (.string c)) g (L.set i c) := by
  have := (World.ownsRow.stored h i (.string c)).1
  unfold OwnA
  rwa [cirV_set] at this
theorem OwnA.lt {w : World} {g : Nat} {L : List ByteArray} (h : OwnA w g L) : g < w.heap.size := by
  have := h.cell 0 (by omega)
  rcases Nat.lt_or_ge g w.heap.size with h' | h'
  · exact h'
  · simp [World.cell?, Array.getElem?_eq_none h'] at this
theorem OwnA.heap {w : World} {g : Nat} {L : List ByteArray} (h : OwnA w g L) : w.heap[g]? = some (.cells (cirV L).toArray 60 (0, 0)) := by
  have hl := h.len
  rcases h.2 with ⟨h1, _⟩ | ⟨g2, cap, cur, h1, _, h4, _, _, h7, h8⟩
  · cases h1
  · simp only [Value.slice.injEq, Option.some.injEq, Addr.mk.injEq, and_true, true_and] at h1
    obtain ⟨rfl, rfl⟩ := h1
    have e : cur.toList = cirV L := by
      rw [← h8, List.take_of_length_le (by rw [Array.length_toList, h7]; omega)]
    rw [h4, ← e]
theorem OwnA.of_heap {w : World} {g : Nat} {L : List ByteArray} (h : w.heap[g]? = some (.cells (cirV L).toArray 60 (0, 0))) (hl : L.length = 360) : OwnA w g L :=
  ⟨by rw [cirV_len, hl], .inr ⟨g, 360, (cirV L).toArray, rfl, Nat.le_refl _, h, Nat.le_refl _, by unfold maxLen; omega, by simp [cirV_len, hl], by rw [List.take_of_length_le (by simp [cirV_len, hl])]⟩⟩
theorem OwnA.range {w : World} {g : Nat} {L : List ByteArray} (h : OwnA w g L) : w.rangeAt g 0 (cirV L) := by
  intro j v hj
  have hjl : j < L.length := by
    rcases Nat.lt_or_ge j L.length with h' | h'
    · exact h'
    · rw [List.getElem?_eq_none (by rw [cirV_len]; exact h')] at hj; cases hj
  rw [Nat.zero_add, h.cell j (by rw [← h.len]; exact hjl), ← hj, cirV_at L j hjl]

def outa (g i : Nat) (w : World) : Value := (w.cell? ⟨g, i, none⟩).getD undef
theorem outa_is {w : World} {g i : Nat} {z : Value} (h : w.cell? ⟨g, i, none⟩ = some z) : w.cell? ⟨g, i, none⟩ = some (outa g i w) := by unfold outa; rw [h]; rfl
theorem lt_of_cella {w : World} {a : Addr} {v : Value} (h : w.cell? a = some v) : a.block < w.heap.size := by
  rcases Nat.lt_or_ge a.block w.heap.size with h' | h'
  · exact h'
  · simp [World.cell?, Array.getElem?_eq_none h'] at h
def KeepA (g i : Nat) (L : List ByteArray) (W0 w : World) : Prop := (∃ L', OwnA w g L' ∧ ∀ j, j ≠ i → L'.getD j e0 = L.getD j e0) ∧ Below g W0 w
theorem keepA {W0 w w1 : World} {a0 a1 a2 : Addr} {v0 v1 v2 : Value} {g i : Nat} {L : List ByteArray} (hb : Below w.heap.size w w1)
    (h : w.cell? a0 = some v0 ∧ w.cell? a1 = some v1 ∧ w.cell? a2 = some v2 ∧ w.cell? ⟨g, i, none⟩ = some (outa g i w) ∧ w.frozen? ⟨g, i, none⟩ = false ∧ KeepA g i L W0 w) :
    w1.cell? a0 = some v0 ∧ w1.cell? a1 = some v1 ∧ w1.cell? a2 = some v2 ∧ w1.cell? ⟨g, i, none⟩ = some (outa g i w1) ∧ w1.frozen? ⟨g, i, none⟩ = false ∧ KeepA g i L W0 w1 := by
  obtain ⟨h0, h1, h2, h3, h4, ⟨L', h5, h6⟩, h7⟩ := h
  exact ⟨cell_below h0 hb, cell_below h1 hb, cell_below h2 hb, outa_is (cell_below h3 hb), frozen_kept hb h4 (lt_of_cella h3), ⟨L', h5.below hb, h6⟩, h7.trans (hb.mono (Nat.le_of_lt h5.lt))⟩
theorem drewA {W0 w : World} {a0 a1 a2 : Addr} {v0 v1 v2 : Value} {g i : Nat} {L : List ByteArray}
    (h : w.cell? a0 = some v0 ∧ w.cell? a1 = some v1 ∧ w.cell? a2 = some v2 ∧ w.cell? ⟨g, i, none⟩ = some (outa g i w) ∧ w.frozen? ⟨g, i, none⟩ = false ∧ KeepA g i L W0 w) :
    w.drew.cell? a0 = some v0 ∧ w.drew.cell? a1 = some v1 ∧ w.drew.cell? a2 = some v2 ∧ w.drew.cell? ⟨g, i, none⟩ = some (outa g i w.drew) ∧ w.drew.frozen? ⟨g, i, none⟩ = false ∧ KeepA g i L W0 w.drew :=
  keepA ((Below.refl _ _).drew) h
theorem putA {W0 w : World} {a0 a1 a2 : Addr} {v0 v1 v2 : Value} {g i : Nat} {L : List ByteArray} {s : ByteArray} (n0 : a0.block ≠ g) (n1 : a1.block ≠ g) (n2 : a2.block ≠ g)
    (h : w.cell? a0 = some v0 ∧ w.cell? a1 = some v1 ∧ w.cell? a2 = some v2 ∧ w.cell? ⟨g, i, none⟩ = some (outa g i w) ∧ w.frozen? ⟨g, i, none⟩ = false ∧ KeepA g i L W0 w) :
    (w.setCell ⟨g, i, none⟩ (.string s)).cell? a0 = some v0 ∧ (w.setCell ⟨g, i, none⟩ (.string s)).cell? a1 = some v1 ∧ (w.setCell ⟨g, i, none⟩ (.string s)).cell? a2 = some v2 ∧ (w.setCell ⟨g, i, none⟩ (.string s)).cell? ⟨g, i, none⟩ = some (outa g i (w.setCell ⟨g, i, none⟩ (.string s))) ∧ (w.setCell ⟨g, i, none⟩ (.string s)).frozen? ⟨g, i, none⟩ = false ∧ KeepA g i L W0 (w.setCell ⟨g, i, none⟩ (.string s)) := by
  obtain ⟨h0, h1, h2, h3, h4, ⟨L', h5, h6⟩, h7⟩ := h
  have ho := h5.put i s
  refine ⟨cell_puts n0 h0, cell_puts n1 h1, cell_puts n2 h2, ?_, ho.frozen i, ⟨L'.set i s, ho, fun j hj => ?_⟩, h7.setCell (Nat.le_refl _) _⟩
  · have e : (w.setCell ⟨g, i, none⟩ (.string s)).cell? ⟨g, i, none⟩ = some (.string s) := World.cell?_setCell_same _ _ _ h3
    exact outa_is e
  · rw [← h6 j hj]
    simp [Ne.symm hj]
theorem KeepA.put {g i : Nat} {L : List ByteArray} {W0 w : World} {s : ByteArray} (h : KeepA g i L W0 w) (hL : L.length = 360) (hi : i < 360) (hc : w.cell? ⟨g, i, none⟩ = some (.string s)) : OwnA w g (L.set i s) := by
  obtain ⟨⟨L', ho, hk⟩, _⟩ := h
  have hl := ho.len
  have h1 := ho.cell i hi
  rw [hc] at h1
  have hs : L'.getD i e0 = s := by simpa using h1.symm
  have e : L' = L.set i s := by
    apply List.ext_getElem
    · rw [hl, List.length_set, hL]
    · intro j h1 h2
      rw [List.getElem_set]
      by_cases e : i = j
      · subst e
        rw [if_pos rfl, ← hs]
        simp [h1]
      · rw [if_neg e]
        have h4 := hk j (fun e2 => e e2.symm)
        have h5 : j < L.length := by rw [hL, ← hl]; exact h1
        simpa [h1, h5] using h4
  rw [← e]; exact ho

set_option maxRecDepth 100000 in
set_option maxHeartbeats 2000000 in
theorem paint_any (g : Nat) (L : List ByteArray) (f t : Int) (x : ByteArray) (w : World) (ho : OwnA w g L) (hf : 0 ≤ f ∧ f ≤ 359) :
    Calls Try.prog 60 #[.pointer (some ⟨g, 0, none⟩), .agg #[.int .i64 f, .int .i64 t, .string x]] w fun e w' => e = .returned (.tuple #[]) ∧ OwnA w' g (paintK L f x (arcS (f, t, x))) ∧ Below g w w' := by
  have HA := Lib.hid (fun w => arcof_any f t x w)
  obtain ⟨b0, b1⟩ := arcS_bd (f, t, x)
  obtain ⟨f0, f1⟩ := hf
  have hLl := ho.len
  have hbx : Below w.heap.size w (w.alloc (.cells #[.int .i64 f, .int .i64 t, .string x] 26)) := (Below.refl _ _).alloc (Nat.le_refl _) _
  have HO := Lib.hid (ho.below hbx)
  have HB := Lib.hid (hbx.mono (Nat.le_of_lt ho.lt))
  have hgw : w.heap.size ≠ g := by have := ho.lt; omega
  generalize arcS (f, t, x) = y at *
  clear ho hbx
  go_enter Try.func60, Try.ntmps60
  go_wp2_with (go_at_call 25; refine (HA.out _).mono ?_; rintro e w2 ⟨rfl, hb⟩; refine Hid.out ?_)
  refine Lib.hid ?_
  have HO2 := Lib.hid (HO.out.below hb)
  have HB2 := Lib.hid (HB.out.trans (hb.mono (Nat.le_of_lt HO.out.lt)))
  have k0 : w2.cell? ⟨w.heap.size, 0, none⟩ = some (.int .i64 f) := cell_below (by simp) hb
  have k2 : w2.cell? ⟨w.heap.size, 2, none⟩ = some (.string x) := cell_below (by simp) hb
  have HK := Lib.hid (And.intro k0 k2)
  clear hb HA k0 k2
  go_wp2_with (fail)
  go_loopw [7] (fun i wr => ∃ j : Nat, (j : Int) ≤ y ∧ i = .int .i64 j ∧ OwnA wr g (paintK L f x j) ∧ (wr.cell? ⟨w.heap.size, 0, none⟩ = some (.int .i64 f) ∧ wr.cell? ⟨w.heap.size, 2, none⟩ = some (.string x)) ∧ Below g w wr) (fun i _ => y.toNat - (intOf i).toNat)
  case atStart => exact ⟨0, by omega, rfl, by have e := paintK_zero hLl f x; exact e.symm ▸ HO2.out, HK.out, HB2.out⟩
  case round =>
    obtain ⟨j, hj, rfl, ho, ⟨k0, k2⟩, hbel⟩ := hrel
    by_cases hjy : (j : Int) < y
    · obtain ⟨q, hq⟩ : ∃ q : Nat, (q : Int) = (f + j) % 360 := ⟨((f + j) % 360).toNat, by omega⟩
      have HG := Lib.hid (fun w => angle_any (f + (j : Int)) w)
      rw [show ang (f + (j : Int)) = (q : Int) from hq.symm] at HG
      have hq1 : q < 360 := by omega
      have hq2 : (q : Int) < 360 := by omega
      have hq0 : (0 : Int) ≤ (q : Int) := by omega
      have hsw : IntKind.i64.wrap (f + (j : Int)) = f + (j : Int) := IntWalk.i64_in _ (by omega)
      have HST := Lib.hid (paintK_step L (f := f) x (k := (j : Int)) (by omega) (by omega) q hq)
      have o0 := outa_is (ho.cell q hq1)
      have fz := ho.frozen q
      have HKA := Lib.hid (show KeepA g q (paintK L f x j) w wr from ⟨⟨_, ho, fun _ _ => rfl⟩, hbel⟩)
      have HLN := Lib.hid (paintK_len L f x j)
      obtain ⟨TK, hTK⟩ : ∃ TK, TK = paintK L f x j := ⟨_, rfl⟩
      rw [← hTK] at HST HKA HLN ho
      clear ho hbel hq hTK
      go_wp2_with (fail)
      go_region_held3 (fun w' => w'.cell? ⟨w.heap.size, 0, none⟩ = some (.int .i64 f) ∧ w'.cell? ⟨w.heap.size, 2, none⟩ = some (.string x) ∧ w'.cell? ⟨w.heap.size, 2, none⟩ = some (.string x) ∧ w'.cell? ⟨g, q, none⟩ = some (outa g q w') ∧ w'.frozen? ⟨g, q, none⟩ = false ∧ KeepA g q TK w w')
        (first | assumption | exact keepA (by assumption) (by assumption) | exact drewA (by assumption) | exact putA hgw hgw hgw (by assumption) | exact drewA ⟨k0, k2, k2, o0, fz, HKA.out⟩ | exact ⟨k0, k2, k2, o0, fz, HKA.out⟩)
        (first
          | (go_at_call 48; refine (HG.out _).mono ?_; rintro e w3 ⟨rfl, rfl⟩))
      all_goals
        rename_i hH
        have hK := hH.2.2.2.2.2
        obtain ⟨z, hz⟩ : ∃ z, wr.cell? ⟨g, q, none⟩ = some z := ⟨_, o0⟩
        have HO5 := Lib.hid (hK.put HLN.out hq1 (World.cell?_setCell_same _ _ _ hz))
        have HB5 := Lib.hid hK.2
        have HK5 := Lib.hid (And.intro hH.1 hH.2.1)
        rw [HST.out] at HO5
        clear hK hH hz o0 fz
        go_wp2_with (fail)
        go_roundw
        case rel => exact ⟨j + 1, by omega, by go_num, HO5.out, HK5.out, HB5.out⟩
        case measure => simp [intOf]; omega
    · obtain rfl : (j : Int) = y := by omega
      have HO3 := Lib.hid ho
      have HB3 := Lib.hid hbel
      clear ho hbel
      go_wp2_with (fail)
      go_end0
      exact ⟨rfl, HO3.out, HB3.out⟩
end Go.Proofs.Ytclbpjjnhfllkaa
