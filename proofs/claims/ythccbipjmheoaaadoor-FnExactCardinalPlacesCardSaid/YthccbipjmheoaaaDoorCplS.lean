/- The four places around a danger: the model's. -/
import Derived.Test.YthccbipjmheoaaaDoorCpl
import Derived.Laws.OwnMore
namespace Go.Proofs.YthccbipjmheoaaaDoor
open Go.ChangeShapes Go.WideShapes Go.ChangeAt Go.RowKit Pm

set_option maxRecDepth 100000 in
set_option maxHeartbeats 4000000 in
theorem scardplaces_any (s : ByteArray) (x y z a : Int) (w : World) (hs : s.size ≤ maxLen) :
    Calls Tryd.prog 11 #[.agg #[.string s, .int .i64 x, .int .i64 y, .int .i64 z], .int .i64 a] w (CplRet (s, x, y, z) a w) := by
  have HV := fun b w' h => sone_any b 0 (s, x, y, z) w' hs h
  have HM := fun w' => in_any a 0 20000 w'
  have D0 := Lib.hid (show DgAt (w.alloc (.cells #[.string s, .int .i64 x, .int .i64 y, .int .i64 z] 31)) w.heap.size 0 (s, x, y, z) from DgAt.new (w := w) (T := 31) (s, x, y, z) w.heap.size rfl)
  cases hk : okD (s, x, y, z)
  · rw [hk] at HV
    have HV := Lib.hid HV
    have HC := Lib.hid (show cplE (s, x, y, z) a = 1 by unfold cplE; rw [hk]; rfl)
    clear hk HM
    go_enter Tryd.func11, Tryd.ntmps11
    go_wp2_with (go_at_call 18; (refine (HV.out _ _ D0.out).mono ?_); rintro e w1 ⟨rfl, hb⟩; have AC := Lib.hid (Below.next (a := w) (by go_grown) hb); clear hb)
    refine bodyPost_ret (v := .tuple #[.slice none 0 0, .int .i64 1]) (by simp [results, Tryd.results11, go_sem, *]) rfl (cpl_bad HC.out (by decide) AC.out)
  rw [hk] at HV
  have HV := Lib.hid HV
  cases hq : inB 0 20000 [a]
  · rw [hq] at HM
    have HM := Lib.hid HM
    have HC := Lib.hid (show cplE (s, x, y, z) a = 2 by unfold cplE; rw [hk, hq]; rfl)
    clear hk hq
    go_enter Tryd.func11, Tryd.ntmps11
    go_wp2_with (first
      | (go_at_call 18; (refine (HV.out _ _ D0.out).mono ?_); rintro e w1 ⟨rfl, hb⟩; have AC := Lib.hid (Below.next (a := w) (by go_grown) hb); clear hb)
      | (go_at_call 25; (refine (HM.out _).mono ?_); rintro e w2 ⟨rfl, rfl⟩))
    refine bodyPost_ret (v := .tuple #[.slice none 0 0, .int .i64 2]) (by simp [results, Tryd.results11, go_sem, *]) rfl (cpl_bad HC.out (by decide) AC.out)
  rw [hq] at HM
  have HM := Lib.hid HM
  obtain ⟨_, _, hv, hz0, hz1⟩ := okD_parts hk
  have ha : 0 ≤ a ∧ a ≤ 20000 := by simpa [inB] using hq
  simp only at hv hz0 hz1
  have hvd := vd_of hv
  unfold Vd at hvd
  have hwr : IntKind.i64.wrap (z + a) = z + a := IntWalk.i64_in _ ⟨by omega, by omega⟩
  have w1 : IntKind.i64.wrap (y + (z + a)) = y + (z + a) := IntWalk.i64_in _ ⟨by omega, by omega⟩
  have w2 : IntKind.i64.wrap (x + (z + a)) = x + (z + a) := IntWalk.i64_in _ ⟨by omega, by omega⟩
  have w3 : IntKind.i64.wrap (y - (z + a)) = y - (z + a) := IntWalk.i64_in _ ⟨by omega, by omega⟩
  have w4 : IntKind.i64.wrap (x - (z + a)) = x - (z + a) := IntWalk.i64_in _ ⟨by omega, by omega⟩
  have HC0 := (show (fourP x y (z + a)).all okB = true → cplE (s, x, y, z) a = 0 from fun h => by unfold cplE; rw [if_pos hk, if_pos hq, if_pos h])
  have HC6 := (show (fourP x y (z + a)).all okB = false → cplE (s, x, y, z) a = 6 from fun h => by unfold cplE; rw [if_pos hk, if_pos hq, if_neg (by rw [h]; decide)])
  have HP0 := Lib.hid (show cplE (s, x, y, z) a = 0 → cplP (s, x, y, z) a = fourP x y (z + a) from fun h => by unfold cplP; rw [if_pos h])
  have HRW := Lib.hid (fun (wr : World) => show OwnPt (wr.alloc (.cells #[.int .i64 x, .int .i64 (y + (z + a)), .int .i64 (x + (z + a)), .int .i64 y, .int .i64 x, .int .i64 (y - (z + a)), .int .i64 (x - (z + a)), .int .i64 y] 29)) wr.heap.size (.slice (some ⟨wr.heap.size, 0, none⟩) 4 4) (fourP x y (z + a)) from World.ownsRow_lit (base := wr.heap.size) (e := 29) (size := 2) wr #[.int .i64 x, .int .i64 (y + (z + a)), .int .i64 (x + (z + a)), .int .i64 y, .int .i64 x, .int .i64 (y - (z + a)), .int .i64 (x - (z + a)), .int .i64 y] 4 (Nat.le_refl _) (by decide) rfl)
  have HPA := Lib.hid (fun wr => ((HRW.out wr).pts (by rw [fourP_len]; omega)).are)
  have HA := fun wr v h => sall_any v (fourP x y (z + a)) wr h
  clear hk hq hv hz0 hz1 ha hvd
  cases hall : (fourP x y (z + a)).all okB
  · rw [hall] at HA
    have HA := Lib.hid HA
    have HC := Lib.hid (HC6 hall)
    clear HC0 HC6 hall
    go_enter Tryd.func11, Tryd.ntmps11
    go_wp2_with (first
      | (go_at_call 18; (refine (HV.out _ _ D0.out).mono ?_); rintro e w1 ⟨rfl, hb⟩; have x1 := cell_below (a := ⟨w.heap.size, 1, none⟩) (v := .int .i64 x) (by go_cell) hb; have x2 := cell_below (a := ⟨w.heap.size, 2, none⟩) (v := .int .i64 y) (by go_cell) hb; have x3 := cell_below (a := ⟨w.heap.size, 3, none⟩) (v := .int .i64 z) (by go_cell) hb; have AC := Lib.hid (Below.next (a := w) (by go_grown) hb); clear hb)
      | (go_at_call 25; (refine (HM.out _).mono ?_); rintro e w2 ⟨rfl, rfl⟩)
      | (go_at_call 26; (refine (HA.out _ _ (HPA.out _)).mono ?_); rintro e w3 ⟨rfl, hb⟩; have AC3 := Lib.hid (Below.next (AC.out.alloc AC.out.size _) hb); clear hb))
    refine bodyPost_ret (v := .tuple #[.slice none 0 0, .int .i64 6]) (by simp [results, Tryd.results11, go_sem, *]) rfl (cpl_bad HC.out (by decide) AC3.out)
  · rw [hall] at HA
    have HA := Lib.hid HA
    have HC := Lib.hid (HC0 hall)
    clear HC0 HC6 hall
    go_enter Tryd.func11, Tryd.ntmps11
    go_wp2_with (first
      | (go_at_call 18; (refine (HV.out _ _ D0.out).mono ?_); rintro e w1 ⟨rfl, hb⟩; have x1 := cell_below (a := ⟨w.heap.size, 1, none⟩) (v := .int .i64 x) (by go_cell) hb; have x2 := cell_below (a := ⟨w.heap.size, 2, none⟩) (v := .int .i64 y) (by go_cell) hb; have x3 := cell_below (a := ⟨w.heap.size, 3, none⟩) (v := .int .i64 z) (by go_cell) hb; have AC := Lib.hid (Below.next (a := w) (by go_grown) hb); clear hb)
      | (go_at_call 25; (refine (HM.out _).mono ?_); rintro e w2 ⟨rfl, rfl⟩)
      | (go_at_call 26; (refine (HA.out _ _ (HPA.out _)).mono ?_); rintro e w3 ⟨rfl, hb⟩; have O4 := Lib.hid (((HRW.out _).below hb).mono AC.out.size); have AC3 := Lib.hid (Below.next (AC.out.alloc AC.out.size _) hb); clear hb))
    refine bodyPost_ret (v := .tuple #[.slice (some ⟨w1.heap.size, 0, none⟩) 4 4, .int .i64 0]) (by simp [results, Tryd.results11, go_sem, *]) rfl ⟨_, by rw [HC.out], by rw [HP0.out HC.out]; exact O4.out, AC3.out⟩
end Go.Proofs.YthccbipjmheoaaaDoor
