/- Blasts, times of sounding, next blasts: the program's. -/
import Derived.Test.YtbfhnfoaipaljaaDoorBlsM
import Derived.Test.YtbfhnfoaipaljaaDoorBlsI
namespace Go.Proofs.YtbfhnfoaipaljaaDoor
open Go.ChangeShapes Go.WideShapes Go.ChangeAt Go.RowKit Pm

set_option maxRecDepth 100000 in
set_option maxHeartbeats 1000000 in
theorem blastsof_any (k b p q : Int) (ea ep eq : Addr) (w : World) (hF : FogsAt w) (hE : FogErrs ea ep eq w) :
    Calls Tryd.prog 25 #[fogV k b p q] w (RowsRet (rowsN k b p q) (blastF (fogLen k)) (rowsC k b p q) w) := by
  cases h : fogOk k b p q
  · have HV := Lib.hid (fun w' (hb : Below w.heap.size w w') => h ▸ validfog_any k b p q ea ep eq w' (hF.below hb) (hE.below hb))
    rw [show rowsN k b p q = 0 by unfold rowsN; rw [h]; rfl, show rowsC k b p q = 1 by unfold rowsC; rw [h]; rfl]
    clear h hF hE
    go_enter Tryd.func25, Tryd.ntmps25
    go_wp2_with (go_at_call 19; (refine (HV.out _ (by go_grown)).mono ?_); rintro e w1 ⟨rfl, hb⟩; have AC := Lib.hid (Below.next (a := w) (by go_grown) hb); clear hb)
    go_ret2
    exact ⟨_, rfl, .inl ⟨rfl, rfl⟩, AC.out⟩
  · obtain ⟨hk, ⟨n, rfl, n0, n1⟩, _, _⟩ := ok_facts h
    obtain ⟨z0, z1⟩ := fogLen_bd k
    have HV := Lib.hid (fun w' (hb : Below w.heap.size w w') => h ▸ validfog_any k n p q ea ep eq w' (hF.below hb) (hE.below hb))
    have HS := Lib.hid (fun w' (hb : Below w.heap.size w w') => sounding_any k n p q w' (hF.below hb))
    rw [show rowsN k n p q = n by unfold rowsN; rw [h]; rfl, show rowsC k n p q = 0 by unfold rowsC; rw [h]; rfl]
    have HB := Lib.hid (fun w => blasts_any k p q n (fogNm k) (fogLen k) w n0 n1 z0 z1)
    generalize fogNm k = s at *
    generalize fogLen k = z at *
    clear h hF hE hk
    go_enter Tryd.func25, Tryd.ntmps25
    go_wp2_with (go_at_call 19; (refine (HV.out _ (by go_grown)).mono ?_); rintro e w1 ⟨rfl, hb⟩; refine Hid.out ?_)
    refine Lib.hid ?_
    have c0 := cell_below (a := ⟨w.heap.size, 0, none⟩) (v := .int .i64 k) (by go_cell) hb
    have c1 := cell_below (a := ⟨w.heap.size, 1, none⟩) (v := .int .i64 n) (by go_cell) hb
    have c2 := cell_below (a := ⟨w.heap.size, 2, none⟩) (v := .int .i64 p) (by go_cell) hb
    have c3 := cell_below (a := ⟨w.heap.size, 3, none⟩) (v := .int .i64 q) (by go_cell) hb
    have AC := Lib.hid (Below.next (a := w) (by go_grown) hb)
    clear hb
    go_wp2_with (go_at_call 49; (refine (HS.out _ AC.out).mono ?_); rintro e w2 ⟨rfl, hb⟩; refine Hid.out ?_)
    refine Lib.hid ?_
    have AC2 := Lib.hid (Below.next AC.out hb)
    clear hb
    go_wp2_with (go_at_call 57; (refine (HB.out _).mono ?_); rintro e w3 ⟨v, rfl, hr, hb⟩; refine Hid.out ?_)
    refine Lib.hid ?_
    have HR := Lib.hid (show RowsV w3 w.heap.size v n (blastF z) from hr.mono AC2.out.size)
    have AC3 := Lib.hid (Below.next AC2.out hb)
    clear hb hr
    go_wp2
    go_ret2
    exact ⟨_, rfl, HR.out, AC3.out⟩
end Go.Proofs.YtbfhnfoaipaljaaDoor
