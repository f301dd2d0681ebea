/- The blasts of a period: the model's. -/
import Derived.Test.YtbfhnfoaipaljaaDoorBlsU
import Derived.Test.YtbfhnfoaipaljaaDoorFogS
namespace Go.Proofs.YtbfhnfoaipaljaaDoor
open Go.ChangeShapes Go.WideShapes Go.ChangeAt Go.RowKit Pm

theorem sblast_bd {n k : Nat} {z : Int} (hn : n ≤ 6) (hk : k < n) (z0 : 0 ≤ z) (z1 : z ≤ 40) : 0 ≤ 2 * (k : Int) * z ∧ 2 * (k : Int) * z ≤ 480 := by
  have : k = 0 ∨ k = 1 ∨ k = 2 ∨ k = 3 ∨ k = 4 ∨ k = 5 := by omega
  constructor <;> rcases this with rfl | rfl | rfl | rfl | rfl | rfl <;> simp <;> omega
set_option maxRecDepth 100000 in
set_option maxHeartbeats 2000000 in
theorem sblasts_any (Bf : Nat) (k p q : Int) (n : Nat) (w : World) (n0 : 0 < n) (n1 : n ≤ 6) (hk : inB 1 4 [k] = true) (hC : FogCells w Bf k n p q) :
    Calls Tryd.prog 56 #[.pointer (some ⟨Bf, 0, none⟩)] w fun e w' => ∃ v, e = .returned v ∧ RowsV w' w.heap.size v n (blastF (fogLen k)) ∧ Below w.heap.size w w' := by
  have HL := Lib.hid (fun w => sfoglen_any k w hk)
  obtain ⟨z0, z1⟩ := fogLen_bd k
  generalize fogLen k = z at *
  have CC := Lib.hid hC
  obtain ⟨c0, c1, c2, c3⟩ := hC
  have hlt : Bf < w.heap.size := by
    rcases Nat.lt_or_ge Bf w.heap.size with h' | h'
    · exact h'
    · simp [World.cell?, Array.getElem?_eq_none h'] at c0
  clear hk c2 c3
  go_enter Tryd.func56, Tryd.ntmps56
  go_wp2_with (go_at_call 51; (refine (HL.out _).mono ?_); rintro e w1 ⟨rfl, hb⟩; refine Hid.out ?_)
  refine Lib.hid ?_
  have ho : w1.ownsRow w.heap.size 75 1 (.slice (some ⟨w.heap.size, 0, none⟩) 0 0) 0 [] := own_below (World.ownsRow_lit w #[] 0 (Nat.le_refl _) (by unfold maxLen; omega) rfl) hb
  have hB := Below.next (a := w) (by go_grown) hb
  have HO := Lib.hid ho
  have HB := Lib.hid hB
  clear hb ho hB
  go_wp2_with (fail)
  go_loopw [3, 5] (fun o i wr => ∃ (v : Value) (j : Nat) (xs : List Value) (bs : Nat → Nat), o = v ∧ j ≤ n ∧ i = .int .i64 j ∧ xs.length = j ∧ BlsUpto wr w.heap.size xs j bs (blastF z) ∧ wr.ownsRow w.heap.size 75 1 v j xs ∧ Below w.heap.size w wr) (fun _ i _ => n - (intOf i).toNat)
  case atStart => exact ⟨_, 0, [], fun _ => 0, rfl, Nat.zero_le _, rfl, rfl, BlsUpto.zero _ _ _ _ _, HO.out, HB.out⟩
  case round =>
    obtain ⟨v, j, xs, bs, hv, hj, rfl, hxl, hup, ho, hbel⟩ := hrel
    replace hv := hv.symm
    subst hv
    have HU := Lib.hid hup
    have HR := Lib.hid ho
    have HBE := Lib.hid hbel
    have HXL := Lib.hid hxl
    have d1 : wr.cell? ⟨Bf, 1, none⟩ = some (.int .i64 n) := cell_below c1 hbel
    clear hup ho hxl
    by_cases hlt2 : j < n
    · have hkn : (j : Int) < (n : Int) := by omega
      obtain ⟨y0, y1⟩ := sblast_bd n1 hlt2 z0 z1
      have e0 : IntKind.i64.wrap (2 * (j : Int)) = 2 * (j : Int) := IntWalk.i64_in _ ⟨by omega, by omega⟩
      have e1 : IntKind.i64.wrap (2 * (j : Int) * z) = 2 * (j : Int) * z := IntWalk.i64_in _ ⟨by omega, by omega⟩
      have e2 : IntKind.i64.wrap (2 * (j : Int) * z + z) = 2 * (j : Int) * z + z := IntWalk.i64_in _ ⟨by omega, by omega⟩
      have hal : Below wr.heap.size wr (wr.alloc (.cells #[.int .i64 (2 * (j : Int) * z), .int .i64 (2 * (j : Int) * z + z)] 2)) := (Below.refl _ _).alloc (Nat.le_refl _) _
      have ho2 : (wr.alloc (.cells #[.int .i64 (2 * (j : Int) * z), .int .i64 (2 * (j : Int) * z + z)] 2)).ownsRow w.heap.size 75 1 v xs.length xs := by rw [HXL.out]; exact own_below HR.out hal
      have HO2 := Lib.hid ho2
      have HBA := Lib.hid (hbel.alloc hbel.size (.cells #[.int .i64 (2 * (j : Int) * z), .int .i64 (2 * (j : Int) * z + z)] 2))
      have HAL := Lib.hid hal
      have hxl2 : xs.length ≤ 1000 := by rw [HXL.out]; omega
      clear hbel hal ho2
      go_wp2_with (at_builtin; (refine wpList_app_row rfl _ _ w.heap.size v xs (rowV wr.heap.size) w (wr.alloc (.cells #[.int .i64 (2 * (j : Int) * z), .int .i64 (2 * (j : Int) * z + z)] 2)) _ HO2.out HBA.out (Nat.le_refl _) hxl2 rfl rfl rfl _ (by simp) rfl ?_))
      intro v' w4 h4 hb4 hk4
      rw [HXL.out] at h4
      have HO4 := Lib.hid h4
      have HB4 := Lib.hid hb4
      have HU4 := Lib.hid (HU.out.step (ys := xs ++ [rowV wr.heap.size]) (w' := w4) wr.heap.size
        (fun i hi => by rw [List.getElem?_append_left (by rw [HXL.out]; omega)]) (by rw [List.getElem?_append_right (by rw [HXL.out]; omega), HXL.out]; simp)
        (fun i u v hr => hk4 _ _ _ (hr.below HAL.out)) (Nat.le_refl _) HBE.out.size (hk4 _ _ _ (by
          have := Row2.new wr wr.heap.size rfl (2 * (j : Int) * z) (2 * (j : Int) * z + z)
          simpa [blastF] using this)))
      have HXL4 := Lib.hid (show (xs ++ [rowV wr.heap.size]).length = j + 1 by rw [List.length_append, List.length_singleton, HXL.out])
      clear h4 hb4 hk4 d1 HU HR HBE HXL HO2 HBA HAL
      go_wp2
      go_roundw
      case rel => exact ⟨_, j + 1, _, _, rfl, by omega, by go_num, HXL4.out, HU4.out, HO4.out, HB4.out⟩
      case measure => simp [intOf]; omega
    · obtain rfl : j = n := by omega
      have HF := Lib.hid (RowsV.of HR.out HU.out n0)
      clear hbel
      go_wp2
      go_ret
      exact ⟨_, rfl, HF.out, HBE.out⟩
end Go.Proofs.YtbfhnfoaipaljaaDoor
