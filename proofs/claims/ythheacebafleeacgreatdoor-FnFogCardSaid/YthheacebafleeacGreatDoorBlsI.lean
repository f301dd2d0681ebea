/- The blasts of a period: the program's. -/
import Derived.Test.YthheacebafleeacGreatDoorBlsX
import Derived.Test.YthheacebafleeacGreatDoorFogY
namespace Go.Proofs.YthheacebafleeacGreatDoor
open Go.ChangeShapes Go.WideShapes Go.ChangeAt Go.RowKit Pm

theorem blast_bd {n k : Nat} {z : Int} (hn : n ≤ 6) (hk : k < n) (z0 : 0 ≤ z) (z1 : z ≤ 40) : 0 ≤ (k : Int) * (2 * z) ∧ (k : Int) * (2 * z) ≤ 480 ∧ (k : Int) * (2 * z) = 2 * k * z := by
  have e : (k : Int) * (2 * z) = 2 * k * z := by rw [← Int.mul_assoc, Int.mul_comm (k : Int) 2]
  have : k = 0 ∨ k = 1 ∨ k = 2 ∨ k = 3 ∨ k = 4 ∨ k = 5 := by omega
  refine ⟨?_, ?_, e⟩ <;> rcases this with rfl | rfl | rfl | rfl | rfl | rfl <;> simp <;> omega
set_option maxRecDepth 100000 in
set_option maxHeartbeats 2000000 in
theorem blasts_any (k p q : Int) (n : Nat) (s : ByteArray) (z : Int) (w : World) (n0 : 0 < n) (n1 : n ≤ 6) (z0 : 0 ≤ z) (z1 : z ≤ 40) :
    Calls Tryz.prog 19 #[sndgV k n p q s z] w fun e w' => ∃ v, e = .returned v ∧ RowsV w' w.heap.size v n (blastF z) ∧ Below w.heap.size w w' := by
  obtain ⟨i0, hi, hz0, hz1, hz2⟩ := rowinfo_parts
  have HST := Lib.hid (fun w => step_any k n p q s z w z0 z1)
  go_enter Tryz.func19, Tryz.ntmps19
  go_wp2_with (at_make; refine wpList_make_full _ rfl _ _ 32 rfl (w.heap.size + 1) 51 i0 (.slice none 0 0) 1 Tryz.underlying32 hi hz0 hz1 _ _ _ _ n rfl rfl rfl rfl (by rw [hz2]; omega) (by unfold maxLen; omega) (by simp) ?_)
  intro w1 hown hg
  have hb : Below (w.heap.size + 1) (w.alloc (.cells #[.int .i64 k, .int .i64 n, .int .i64 p, .int .i64 q, .string s, .int .i64 z] 48)) w1 := by
    have h0 : (w.alloc (.cells #[.int .i64 k, .int .i64 n, .int .i64 p, .int .i64 q, .string s, .int .i64 z] 48)).heap.size = w.heap.size + 1 := by simp
    rw [← h0]
    exact (Below.refl _ _).grown hg (Nat.le_refl _) (fun k hk => by cases hk)
  have hba : Below w.heap.size w w1 := Below.next (a := w) (b := w.alloc (.cells #[.int .i64 k, .int .i64 n, .int .i64 p, .int .i64 q, .string s, .int .i64 z] 48)) (by go_grown) (by rw [show (w.alloc (.cells #[.int .i64 k, .int .i64 n, .int .i64 p, .int .i64 q, .string s, .int .i64 z] 48)).heap.size = w.heap.size + 1 by simp]; exact hb)
  have c0 : w1.cell? ⟨w.heap.size, 0, none⟩ = some (.int .i64 k) := (hb.cell (p := ⟨w.heap.size, 0, none⟩) (Nat.lt_succ_self _)).trans (by go_cell)
  have c1 : w1.cell? ⟨w.heap.size, 1, none⟩ = some (.int .i64 n) := (hb.cell (p := ⟨w.heap.size, 1, none⟩) (Nat.lt_succ_self _)).trans (by go_cell)
  have c2 : w1.cell? ⟨w.heap.size, 2, none⟩ = some (.int .i64 p) := (hb.cell (p := ⟨w.heap.size, 2, none⟩) (Nat.lt_succ_self _)).trans (by go_cell)
  have c3 : w1.cell? ⟨w.heap.size, 3, none⟩ = some (.int .i64 q) := (hb.cell (p := ⟨w.heap.size, 3, none⟩) (Nat.lt_succ_self _)).trans (by go_cell)
  have c4 : w1.cell? ⟨w.heap.size, 4, none⟩ = some (.string s) := (hb.cell (p := ⟨w.heap.size, 4, none⟩) (Nat.lt_succ_self _)).trans (by go_cell)
  have c5 : w1.cell? ⟨w.heap.size, 5, none⟩ = some (.int .i64 z) := (hb.cell (p := ⟨w.heap.size, 5, none⟩) (Nat.lt_succ_self _)).trans (by go_cell)
  obtain ⟨xs0, hx0⟩ : ∃ xs0, xs0 = (madeCells #[Value.slice none 0 0] n).toList := ⟨_, rfl⟩
  rw [← hx0] at hown
  have hl0 : xs0.length = n := by have := hown.1; omega
  have HO := Lib.hid hown
  have HA := Lib.hid hba
  have C := Lib.hid (And.intro c0 (And.intro c1 (And.intro c2 (And.intro c3 (And.intro c4 c5)))))
  have hsz1 : w.heap.size + 1 < w1.heap.size := (hown.lt (w.heap.size + 1) rfl).2
  clear hown hg hb hba hx0 hi hz0 hz1 hz2 c0 c2 c3 c4 c5
  go_wp2_with (fail)
  go_loopw [12] (fun i wr => ∃ (j : Nat) (xs : List Value) (bs : Nat → Nat), j ≤ n ∧ i = .int .i64 j ∧ xs.length = n ∧ BlsUpto wr w.heap.size xs j bs (blastF z) ∧ wr.ownsRow (w.heap.size + 1) 51 1 (.slice (some ⟨w.heap.size + 1, 0, none⟩) n n) n xs ∧ Below (w.heap.size + 1) w1 wr) (fun i _ => n - (intOf i).toNat)
  case atStart => exact ⟨0, xs0, fun _ => 0, Nat.zero_le _, rfl, hl0, BlsUpto.zero _ _ _ _ _, HO.out, Below.refl _ _⟩
  case round =>
    obtain ⟨j, xs, bs, hj, rfl, hxl, hup, ho, hbel⟩ := hrel
    have HU := Lib.hid hup
    have HR := Lib.hid ho
    have HB := Lib.hid hbel
    have HXL := Lib.hid hxl
    clear hup ho hxl
    by_cases hlt : j < n
    · have hkn : (j : Int) < (n : Int) := by omega
      have d0 : wr.cell? ⟨w.heap.size, 0, none⟩ = some (.int .i64 k) := (hbel.cell (p := ⟨w.heap.size, 0, none⟩) (Nat.lt_succ_self _)).trans (C.out).1
      have d1 : wr.cell? ⟨w.heap.size, 1, none⟩ = some (.int .i64 n) := (hbel.cell (p := ⟨w.heap.size, 1, none⟩) (Nat.lt_succ_self _)).trans (C.out).2.1
      have d2 : wr.cell? ⟨w.heap.size, 2, none⟩ = some (.int .i64 p) := (hbel.cell (p := ⟨w.heap.size, 2, none⟩) (Nat.lt_succ_self _)).trans (C.out).2.2.1
      have d3 : wr.cell? ⟨w.heap.size, 3, none⟩ = some (.int .i64 q) := (hbel.cell (p := ⟨w.heap.size, 3, none⟩) (Nat.lt_succ_self _)).trans (C.out).2.2.2.1
      have d4 : wr.cell? ⟨w.heap.size, 4, none⟩ = some (.string s) := (hbel.cell (p := ⟨w.heap.size, 4, none⟩) (Nat.lt_succ_self _)).trans (C.out).2.2.2.2.1
      have d5 : wr.cell? ⟨w.heap.size, 5, none⟩ = some (.int .i64 z) := (hbel.cell (p := ⟨w.heap.size, 5, none⟩) (Nat.lt_succ_self _)).trans (C.out).2.2.2.2.2
      obtain ⟨y0, y1, y2⟩ := blast_bd n1 hlt z0 z1
      have e1 : IntKind.i64.wrap ((j : Int) * (2 * z)) = (j : Int) * (2 * z) := IntWalk.i64_in _ ⟨by omega, by omega⟩
      have e2 : IntKind.i64.wrap ((j : Int) * (2 * z) + z) = (j : Int) * (2 * z) + z := IntWalk.i64_in _ ⟨by omega, by omega⟩
      have hsr := hbel.size
      clear hbel
      have Y2 := Lib.hid y2
      clear y2
      obtain ⟨t, ht⟩ : ∃ t, t = 2 * z := ⟨_, rfl⟩
      rw [← ht] at HST y0 y1 e1 e2 Y2
      clear ht
      go_wp2_with (go_at_call 43; (refine (HST.out _).mono ?_); rintro e w2 ⟨rfl, hb⟩; refine Hid.out ?_)
      refine Lib.hid ?_
      obtain ⟨y, hy⟩ : ∃ y, y = (j : Int) * t := ⟨_, rfl⟩
      rw [← hy] at Y2
      have HY := Lib.hid hy
      clear hy
      have d5 := cell_below d5 hb
      have ho2 := own_below HR.out hb
      have o0 := ho2.cellAt j (by omega)
      have hxj : j < xs.length := by rw [HXL.out]; exact hlt
      rw [List.getElem?_eq_getElem hxj] at o0
      generalize xs[j] = zold at o0
      have f0 := ho2.frozenAt j
      have hs2 := hb.size
      have hz2 : w.heap.size + 1 < w2.heap.size := by omega
      have HST2 := (ho2.stored j (rowV w2.heap.size)).1
      have hz3 : (w2.setCell ⟨w.heap.size + 1, j, none⟩ (rowV w2.heap.size)).heap.size = w2.heap.size := by simp
      have hal : Below (w2.setCell ⟨w.heap.size + 1, j, none⟩ (rowV w2.heap.size)).heap.size (w2.setCell ⟨w.heap.size + 1, j, none⟩ (rowV w2.heap.size)) ((w2.setCell ⟨w.heap.size + 1, j, none⟩ (rowV w2.heap.size)).alloc (.cells #[.int .i64 y, .int .i64 (y + z)] 2)) := (Below.refl _ _).alloc (Nat.le_refl _) _
      have HST3 := Lib.hid (own_below HST2 hal)
      have hB2 : Below (w.heap.size + 1) w1 w2 := HB.out.trans (hb.mono (by omega))
      have HB3 := Lib.hid ((hB2.setCell (p := ⟨w.heap.size + 1, j, none⟩) (Nat.le_refl _) (rowV w2.heap.size)).alloc (by rw [hz3]; omega) (.cells #[.int .i64 y, .int .i64 (y + z)] 2))
      have HU3 := Lib.hid (HU.out.step (ys := xs.set j (rowV w2.heap.size)) (w' := (w2.setCell ⟨w.heap.size + 1, j, none⟩ (rowV w2.heap.size)).alloc (.cells #[.int .i64 y, .int .i64 (y + z)] 2)) w2.heap.size
        (fun i hi => by rw [List.getElem?_set_ne (by omega)]) (by simp [hxj])
        (fun i u v hr => ((hr.below hb).other _ _ (fun e => own_apart ho2 (hr.below hb) (by rw [show i = w.heap.size + 1 from e.symm]; rfl))).below hal)
        hs2 (by omega) (by
          have := Row2.new (w2.setCell ⟨w.heap.size + 1, j, none⟩ (rowV w2.heap.size)) w2.heap.size hz3 y (y + z)
          simpa [blastF, Y2.out] using this))
      rw [HY.out] at HB3 HU3 HST3
      have HXL3 := Lib.hid (show (xs.set j (rowV w2.heap.size)).length = n by rw [List.length_set]; exact HXL.out)
      clear hb ho2 hal HST2 hB2 d0 d1 d2 d3 d4 hsr hs2 HU HR HB HXL hz3 Y2 HY y
      go_wp2_with (fail)
      go_roundw
      case rel => exact ⟨j + 1, _, _, by omega, by go_num, HXL3.out, HU3.out, HST3.out, HB3.out⟩
      case measure => simp [intOf]; omega
    · obtain rfl : j = n := by omega
      have HF := Lib.hid (RowsV.of HR.out HU.out n0)
      clear hbel
      go_wp2
      go_ret
      exact ⟨_, rfl, HF.out, HA.out.trans (HB.out.mono (by omega))⟩
end Go.Proofs.YthheacebafleeacGreatDoor
