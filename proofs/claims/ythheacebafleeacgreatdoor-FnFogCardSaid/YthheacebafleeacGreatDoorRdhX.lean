/- Reading seconds, and the name of a kind: the program's. The kind with a name: the program's. Readings of fog signals: what both sides use. -/
import Derived.Test.YthheacebafleeacGreatDoorRdgX
import Derived.Test.YthheacebafleeacGreatDoorFogX
import Derived.Test.YthheacebafleeacGreatDoorLaidX
import Derived.Shelf.Strings.Prefix
import Derived.Shelf.Strings.Cut
import Derived.Shelf.Strings.Search3
import Derived.BigQuiet
import Derived.Deep.QuietTactic
import Derived.Laws.IdiomStrings
import Derived.Deep.MidRow
namespace Go.Proofs.YthheacebafleeacGreatDoor
open Go.ChangeShapes Go.WideShapes Go.ChangeAt Go.RowKit Pm

theorem trim_any (s : ByteArray) (c : UInt8) (w : World) (hs : s.size ≤ 1048576) :
    Calls Tryz.prog 25 #[.string s, .string ⟨#[c]⟩] w fun e w' => e = .returned (.string (trimT s c)) ∧ w = w' :=
  (Any.strings_TrimSuffix Tryz.lays102 s ⟨#[c]⟩ w (by omega)).mono fun e w' ⟨he, hw⟩ => ⟨he, hw.symm⟩
theorem trim_size (s : ByteArray) (c : UInt8) : (trimT s c).size ≤ s.size := by
  show (Lib.trimSuffix s.data.toList [c]).toArray.size ≤ _
  unfold Lib.trimSuffix
  have : s.size = s.data.toList.length := rfl
  split <;> simp <;> omega
theorem secs_none (s : ByteArray) (w : World) (hs : s.size ≤ 1048574) (hN : Calls Tryz.prog 50 #[.string (rsN s), .string ⟨#[46]⟩, .int .i64 2] w (PartsNo w)) :
    Calls Tryz.prog 27 #[.string s] w fun e w' => e = .returned (.int .i64 0) ∧ Below w.heap.size w w' := by
  have HN := Lib.hid hN
  have HT := Lib.hid (fun w => trim_any s 115 w (by omega))
  have hz := trim_size s 115
  have HC := Lib.hid (fun w => Any.strings_Contains_one Tryz.lays144 (trimT s 115) 46 w)
  unfold rsN at HN
  generalize trimT s 115 = t at *
  generalize decide (0 ≤ Lib.indexByte t.data.toList 46) = b at *
  have q1 := fun w => run_string_add_sum (P := Tryz.prog) (w := w) t ⟨#[46, 48]⟩ (by show t.size + 2 ≤ _; omega)
  clear hN
  cases b
  all_goals
    simp only [Bool.false_eq_true, ↓reduceIte] at HN
    go_enter Tryz.func27, Tryz.ntmps27
    go_wp2_with (first
      | (go_at_call 25; refine (HT.out _).mono ?_; rintro e w1 ⟨rfl, rfl⟩)
      | (go_at_call 49; refine (HC.out _).mono ?_; rintro e w1 ⟨rfl, rfl⟩)
      | (go_at_call 50; refine HN.out.mono ?_; rintro e w1 ⟨rfl, hb⟩))
    go_ret
    exact ⟨rfl, hb⟩
theorem two_gets {zs : List Int} (h : zs.length = 2) : zs = [zs.getD 0 0, zs.getD 1 0] := by
  match zs, h with
  | [_, _], _ => rfl
set_option maxHeartbeats 1000000 in
theorem secs_some (s : ByteArray) (x y : Int) (w : World) (hs : s.size ≤ 1048574) (x0 : -2147483648 ≤ x) (x1 : x ≤ 2147483647) (y0 : -2147483648 ≤ y) (y1 : y ≤ 2147483647)
    (hN : Calls Tryz.prog 50 #[.string (rsN s), .string ⟨#[46]⟩, .int .i64 2] w (PartsYes [x, y] 2 w)) :
    Calls Tryz.prog 27 #[.string s] w fun e w' => e = .returned (.int .i64 (x * 10 + y)) ∧ Below w.heap.size w w' := by
  have HN := Lib.hid hN
  have HT := Lib.hid (fun w => trim_any s 115 w (by omega))
  have hz := trim_size s 115
  have HC := Lib.hid (fun w => Any.strings_Contains_one Tryz.lays144 (trimT s 115) 46 w)
  unfold rsN at HN
  generalize trimT s 115 = t at *
  generalize decide (0 ≤ Lib.indexByte t.data.toList 46) = b at *
  have q1 := fun w => run_string_add_sum (P := Tryz.prog) (w := w) t ⟨#[46, 48]⟩ (by show t.size + 2 ≤ _; omega)
  have eW : IntKind.i64.wrap (x * 10) = x * 10 := IntWalk.i64_in _ (by omega)
  have eZ : IntKind.i64.wrap (x * 10 + y) = x * 10 + y := IntWalk.i64_in _ (by omega)
  clear hN x0 x1 y0 y1 hs hz
  cases b
  all_goals
    simp only [Bool.false_eq_true, ↓reduceIte] at HN
    go_enter Tryz.func27, Tryz.ntmps27
    go_wp2_with (first
      | (go_at_call 25; refine (HT.out _).mono ?_; rintro e w1 ⟨rfl, rfl⟩)
      | (go_at_call 49; refine (HC.out _).mono ?_; rintro e w1 ⟨rfl, rfl⟩)
      | (go_at_call 50; refine HN.out.mono ?_; rintro e w1 ⟨g, rfl, hc, hb⟩; have q2 := hc 0 (by omega); have q3 := hc 1 (by omega); simp only [List.getD_cons_zero, List.getD_cons_succ] at q2 q3; have HB := Lib.hid hb; clear hc hb))
    go_quiet (fail)
    go_wp2
    go_ret
    exact ⟨rfl, below_drewN HB.out _⟩
theorem secs_any (s : ByteArray) (w : World) (hs : s.size ≤ 1048574) (hl : LenAt7 w) (hE : ErrsAt w) :
    Calls Tryz.prog 27 #[.string s] w fun e w' => e = .returned (.int .i64 (rsV s)) ∧ Below w.heap.size w w' := by
  have hz := trim_size s 115
  have hn : (rsN s).size ≤ 1048576 := by
    unfold rsN
    split
    · omega
    · rw [ByteArray.size_append]; show _ + 2 ≤ _; omega
  unfold rsV
  by_cases h : (pcs 46 2 (rsN s)).length = 2 ∧ (pcs 46 2 (rsN s)).all pOk = true
  · rw [if_pos h]
    have hY := parts_yes (rsN s) 46 2 w hn (by omega) (by omega) hl hE h
    have hlen : ((pcs 46 2 (rsN s)).map pVal).length = 2 := by rw [List.length_map]; exact h.1
    have hbd : ∀ z ∈ (pcs 46 2 (rsN s)).map pVal, -2147483648 ≤ z ∧ z ≤ 2147483647 := fun z hz => by
      obtain ⟨p, _, rfl⟩ := List.mem_map.1 hz
      exact pVal_bd p
    generalize (pcs 46 2 (rsN s)).map pVal = zs at *
    have e := two_gets hlen
    have a0 := hbd (zs.getD 0 0) (by rw [e]; simp)
    have a1 := hbd (zs.getD 1 0) (by rw [e]; simp)
    rw [e] at hY
    exact secs_some s _ _ w hs a0.1 a0.2 a1.1 a1.2 hY
  · rw [if_neg h]
    exact secs_none s w hs (parts_no (rsN s) 46 2 w hn (by omega) (by omega) hl hE h)
end Go.Proofs.YthheacebafleeacGreatDoor
namespace Go.Proofs.YthheacebafleeacGreatDoor
open Go.ChangeShapes Go.WideShapes Go.ChangeAt Go.RowKit Pm

/-- The table of fog signals as values. -/
def fogA : List Value := [.string (fogNm ((0 : Nat) : Int)), .int .i64 (fogLen ((0 : Nat) : Int)), .string (fogNm ((1 : Nat) : Int)), .int .i64 (fogLen ((1 : Nat) : Int)), .string (fogNm ((2 : Nat) : Int)), .int .i64 (fogLen ((2 : Nat) : Int)), .string (fogNm ((3 : Nat) : Int)), .int .i64 (fogLen ((3 : Nat) : Int)), .string (fogNm ((4 : Nat) : Int)), .int .i64 (fogLen ((4 : Nat) : Int))]
theorem fogA_range {w : World} (h : FogsAt w) : w.rangeAt 0 0 fogA := by
  intro j v hv
  have hj : j < 10 := (List.getElem?_eq_some_iff.1 hv).1
  rw [Nat.zero_add]
  have : j = 0 ∨ j = 1 ∨ j = 2 ∨ j = 3 ∨ j = 4 ∨ j = 5 ∨ j = 6 ∨ j = 7 ∨ j = 8 ∨ j = 9 := by omega
  rcases this with rfl | rfl | rfl | rfl | rfl | rfl | rfl | rfl | rfl | rfl
  · exact (h 0 (by omega)).1.trans hv
  · exact (h 0 (by omega)).2.trans hv
  · exact (h 1 (by omega)).1.trans hv
  · exact (h 1 (by omega)).2.trans hv
  · exact (h 2 (by omega)).1.trans hv
  · exact (h 2 (by omega)).2.trans hv
  · exact (h 3 (by omega)).1.trans hv
  · exact (h 3 (by omega)).2.trans hv
  · exact (h 4 (by omega)).1.trans hv
  · exact (h 4 (by omega)).2.trans hv
theorem index_fog (k : Nat) (hk : k < 5) (w : World) : (Instr.index 80 (.agg fogA.toArray) (.int .i64 (k : Int))).run Tryz.prog w = .ok (.agg #[.string (fogNm k), .int .i64 (fogLen k)]) w := by
  have : k = 0 ∨ k = 1 ∨ k = 2 ∨ k = 3 ∨ k = 4 := by omega
  rcases this with rfl | rfl | rfl | rfl | rfl
  · exact (show ∀ w, (Instr.index 80 (.agg fogA.toArray) (.int .i64 ((0 : Nat) : Int))).run Tryz.prog w = .ok (.agg #[.string (fogNm ((0 : Nat) : Int)), .int .i64 (fogLen ((0 : Nat) : Int))]) w from fun _ => by kernel_rfl) w
  · exact (show ∀ w, (Instr.index 80 (.agg fogA.toArray) (.int .i64 ((1 : Nat) : Int))).run Tryz.prog w = .ok (.agg #[.string (fogNm ((1 : Nat) : Int)), .int .i64 (fogLen ((1 : Nat) : Int))]) w from fun _ => by kernel_rfl) w
  · exact (show ∀ w, (Instr.index 80 (.agg fogA.toArray) (.int .i64 ((2 : Nat) : Int))).run Tryz.prog w = .ok (.agg #[.string (fogNm ((2 : Nat) : Int)), .int .i64 (fogLen ((2 : Nat) : Int))]) w from fun _ => by kernel_rfl) w
  · exact (show ∀ w, (Instr.index 80 (.agg fogA.toArray) (.int .i64 ((3 : Nat) : Int))).run Tryz.prog w = .ok (.agg #[.string (fogNm ((3 : Nat) : Int)), .int .i64 (fogLen ((3 : Nat) : Int))]) w from fun _ => by kernel_rfl) w
  · exact (show ∀ w, (Instr.index 80 (.agg fogA.toArray) (.int .i64 ((4 : Nat) : Int))).run Tryz.prog w = .ok (.agg #[.string (fogNm ((4 : Nat) : Int)), .int .i64 (fogLen ((4 : Nat) : Int))]) w from fun _ => by kernel_rfl) w
theorem kindOf_at {s : ByteArray} {k : Nat} (hk : k < 5) (h : fogNm k = s) : kindOf s = k := by
  subst h
  have : k = 0 ∨ k = 1 ∨ k = 2 ∨ k = 3 ∨ k = 4 := by omega
  rcases this with rfl | rfl | rfl | rfl | rfl <;> decide
theorem kindOf_none {s : ByteArray} (h : ∀ r : Nat, r < 5 → fogNm r ≠ s) : kindOf s = 0 := by
  unfold kindOf
  rw [if_neg (fun e => h 1 (by omega) e.symm), if_neg (fun e => h 2 (by omega) e.symm), if_neg (fun e => h 3 (by omega) e.symm), if_neg (fun e => h 4 (by omega) e.symm)]
theorem retI {a b : Int} (h : a = b) : Ending.returned (.int .i64 a) = .returned (.int .i64 b) := by rw [h]
set_option maxRecDepth 100000 in
set_option maxHeartbeats 1000000 in
theorem kindof_any (s : ByteArray) (w : World) (hF : FogsAt w) :
    Calls Tryz.prog 26 #[.string s] w fun e w' => e = .returned (.int .i64 (kindOf s)) ∧ Below w.heap.size w w' := by
  have HR := Lib.hid (fogA_range hF)
  clear hF
  have HX := Lib.hid (fun k h w => index_fog k h w)
  go_enter Tryz.func26, Tryz.ntmps26
  go_wp2_with (refine wpList_load_mid rfl 80 _ rfl 0 0 rfl fogA _ HR.out Tryz.underlying80 rfl (by kernel_rfl) ?_)
  obtain ⟨A, hA⟩ : ∃ A, A = fogA.toArray := ⟨_, rfl⟩
  rw [← hA] at HX ⊢
  clear hA HR
  go_loopw [6] (fun i wr => ∃ k : Nat, k ≤ 5 ∧ i = .int .i64 k ∧ (∀ r : Nat, r < k → fogNm r ≠ s) ∧ Below w.heap.size w wr) (fun i _ => 5 - (intOf i).toNat)
  case atStart => exact ⟨0, Nat.zero_le _, rfl, fun r h => absurd h (Nat.not_lt_zero r), Below.refl _ _⟩
  case round =>
    obtain ⟨k, hk, rfl, hno, hbel⟩ := hrel
    have HB := Lib.hid hbel
    have HN := Lib.hid hno
    clear hbel hno
    by_cases hlt : k < 5
    · have hk5 : (k : Int) < 5 := by omega
      have hidx := fun w => HX.out k hlt w
      have HK := Lib.hid (fun e => kindOf_at (s := s) hlt e)
      obtain ⟨nm, hnm⟩ : ∃ x, x = fogNm k := ⟨_, rfl⟩
      have HNM := Lib.hid hnm
      rw [← hnm] at hidx HK
      generalize fogLen k = ln at *
      clear hnm
      by_cases he : nm = s
      · obtain ⟨t1, t2⟩ := str_eq he
        have HV := Lib.hid (HK.out he)
        clear he
        go_wp2
        go_ret
        exact ⟨retI HV.out.symm, HB.out.alloc HB.out.size _⟩
      · obtain ⟨t1, t2⟩ := str_ne he
        have HV := Lib.hid he
        clear he
        go_wp2
        go_roundw
        case rel => exact ⟨k + 1, by omega, by go_num, fun r hr => by
          by_cases e : r < k
          · exact HN.out r e
          · obtain rfl : r = k := by omega
            rw [← HNM.out]; exact HV.out, HB.out.alloc HB.out.size _⟩
        case measure => simp [intOf]; omega
    · obtain rfl : k = 5 := by omega
      have HV := Lib.hid (kindOf_none HN.out)
      go_wp2
      go_ret
      exact ⟨retI HV.out.symm, HB.out⟩
end Go.Proofs.YthheacebafleeacGreatDoor
namespace Go.Proofs.YthheacebafleeacGreatDoor
open Go.ChangeShapes Go.WideShapes Go.ChangeAt Go.RowKit Pm

/-- Four cells that may be written. -/
def Fz (w : World) (B : Nat) : Prop := B < w.heap.size ∧ w.frozen? ⟨B, 0, none⟩ = false ∧ w.frozen? ⟨B, 1, none⟩ = false ∧ w.frozen? ⟨B, 2, none⟩ = false ∧ w.frozen? ⟨B, 3, none⟩ = false
theorem frozen_belowF {w w' : World} {a : Addr} (h : w.frozen? a = false) (hl : a.block < w.heap.size) (hb : Below w.heap.size w w') : w'.frozen? a = false := by
  rw [hb.frozen hl]; exact h
theorem Fz.below {w w' : World} {B : Nat} (h : Fz w B) (hb : Below w.heap.size w w') : Fz w' B :=
  ⟨Nat.lt_of_lt_of_le h.1 hb.size, frozen_belowF h.2.1 h.1 hb, frozen_belowF h.2.2.1 h.1 hb, frozen_belowF h.2.2.2.1 h.1 hb, frozen_belowF h.2.2.2.2 h.1 hb⟩
def FogCellsI (w : World) (B : Nat) (k b p q : Int) : Prop := w.cell? ⟨B, 0, none⟩ = some (.int .i64 k) ∧ w.cell? ⟨B, 1, none⟩ = some (.int .i64 b) ∧ w.cell? ⟨B, 2, none⟩ = some (.int .i64 p) ∧ w.cell? ⟨B, 3, none⟩ = some (.int .i64 q)
theorem FogCellsI.below {w w' : World} {B : Nat} {k b p q : Int} (h : FogCellsI w B k b p q) (hb : Below w.heap.size w w') : FogCellsI w' B k b p q :=
  ⟨cell_below h.1 hb, cell_below h.2.1 hb, cell_below h.2.2.1 hb, cell_below h.2.2.2 hb⟩
theorem zero4 (w : World) (T : TypeId) : FogCellsI (w.alloc (.cells #[.int .i64 0, .int .i64 0, .int .i64 0, .int .i64 0] T)) w.heap.size 0 0 0 0 ∧ Fz (w.alloc (.cells #[.int .i64 0, .int .i64 0, .int .i64 0, .int .i64 0] T)) w.heap.size :=
  ⟨⟨by simp, by simp, by simp, by simp⟩, by simp, by go_simp, by go_simp, by go_simp, by go_simp⟩
def RdRet (r : F4 × Bool) (w : World) (e : Ending) (w' : World) : Prop :=
  e = .returned (.tuple #[.agg #[.int .i64 r.1.1, .int .i64 r.1.2.1, .int .i64 r.1.2.2.1, .int .i64 r.1.2.2.2], .bool r.2]) ∧ Below w.heap.size w w'
theorem keepBlk {W w' : World} {B : Nat} {G : Prop} (h : FogCellsI W B 0 0 0 0 ∧ Fz W B) (hb : Below W.heap.size W w') (k : FogCellsI w' B 0 0 0 0 ∧ Fz w' B → G) : G := k ⟨h.1.below hb, h.2.below hb⟩
theorem keepNew {W w' : World} {T : TypeId} {G : Prop} (hb : Below (W.alloc (.cells #[.int .i64 0, .int .i64 0, .int .i64 0, .int .i64 0] T)).heap.size (W.alloc (.cells #[.int .i64 0, .int .i64 0, .int .i64 0, .int .i64 0] T)) w') (k : FogCellsI w' W.heap.size 0 0 0 0 ∧ Fz w' W.heap.size → G) : G := keepBlk (zero4 W T) hb k
theorem keepNewD {W w' : World} {T : TypeId} {G : Prop} (hb : Below ((W.alloc (.cells #[.int .i64 0, .int .i64 0, .int .i64 0, .int .i64 0] T)).drew).heap.size ((W.alloc (.cells #[.int .i64 0, .int .i64 0, .int .i64 0, .int .i64 0] T)).drew) w') (k : FogCellsI w' W.heap.size 0 0 0 0 ∧ Fz w' W.heap.size → G) : G :=
  keepBlk (W := (W.alloc (.cells #[.int .i64 0, .int .i64 0, .int .i64 0, .int .i64 0] T)).drew) (B := W.heap.size) (zero4 W T) hb k
theorem fin_new {W0 w : World} {T : TypeId} {k p : Int} (hb : Below W0.heap.size W0 w) : ∃ Bf : Nat, Value.pointer (some ⟨w.heap.size, 0, none⟩) = .pointer (some ⟨Bf, 0, none⟩) ∧ W0.heap.size ≤ Bf ∧ FogCellsI (w.alloc (.cells #[.int .i64 k, .int .i64 1, .int .i64 p, .int .i64 0] T)) Bf k 1 p 0 ∧ Fz (w.alloc (.cells #[.int .i64 k, .int .i64 1, .int .i64 p, .int .i64 0] T)) Bf ∧ Below W0.heap.size W0 (w.alloc (.cells #[.int .i64 k, .int .i64 1, .int .i64 p, .int .i64 0] T)) :=
  ⟨_, rfl, hb.size, ⟨by simp, by simp, by simp, by simp⟩, ⟨by simp, by go_simp, by go_simp, by go_simp, by go_simp⟩, hb.alloc hb.size _⟩
theorem fin_set {W0 w : World} {B : Nat} {k p : Int} (h : FogCellsI w B 0 0 0 0 ∧ Fz w B) (hB : W0.heap.size ≤ B) (hb : Below W0.heap.size W0 w) : ∃ Bf : Nat, Value.pointer (some ⟨B, 0, none⟩) = .pointer (some ⟨Bf, 0, none⟩) ∧ W0.heap.size ≤ Bf ∧ FogCellsI ((((w.setCell ⟨B, 0, none⟩ (.int .i64 k)).setCell ⟨B, 1, none⟩ (.int .i64 1)).setCell ⟨B, 2, none⟩ (.int .i64 p)).setCell ⟨B, 3, none⟩ (.int .i64 0)) Bf k 1 p 0 ∧ Fz ((((w.setCell ⟨B, 0, none⟩ (.int .i64 k)).setCell ⟨B, 1, none⟩ (.int .i64 1)).setCell ⟨B, 2, none⟩ (.int .i64 p)).setCell ⟨B, 3, none⟩ (.int .i64 0)) Bf ∧ Below W0.heap.size W0 ((((w.setCell ⟨B, 0, none⟩ (.int .i64 k)).setCell ⟨B, 1, none⟩ (.int .i64 1)).setCell ⟨B, 2, none⟩ (.int .i64 p)).setCell ⟨B, 3, none⟩ (.int .i64 0)) := by
  obtain ⟨⟨d0, d1, d2, d3⟩, hlt, f0, f1, f2, f3⟩ := h
  refine ⟨_, rfl, hB, ⟨by go_cell, by go_cell, by go_cell, by go_cell⟩, ⟨by first | assumption | (simp; done) | (simp; omega), by go_simp, by go_simp, by go_simp, by go_simp⟩, ?_⟩
  iterate 4 (refine Below.setCell ?_ (by exact hB) _)
  exact hb
theorem cut_sizes {s a b c : ByteArray} (h : cutS 32 s = [a, b, c]) : a.size + b.size + c.size + 2 = s.size := by
  have := congrArg List.length (cut_join h)
  simp only [List.length_append, List.length_cons] at this
  have e : ∀ x : ByteArray, x.size = x.data.toList.length := fun _ => rfl
  rw [e, e, e, e]
  omega
theorem rcell_lt {w : World} {B i : Nat} {v : Value} (h : w.cell? ⟨B, i, none⟩ = some v) : B < w.heap.size := by
  rcases Nat.lt_or_ge B w.heap.size with h' | h'
  · exact h'
  · simp [World.cell?, Array.getElem?_eq_none h'] at h
end Go.Proofs.YthheacebafleeacGreatDoor
