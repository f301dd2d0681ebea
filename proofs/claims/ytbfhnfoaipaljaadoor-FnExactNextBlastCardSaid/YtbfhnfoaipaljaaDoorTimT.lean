/- Times of sounding and next blasts: the program's. -/
import Derived.Test.YtbfhnfoaipaljaaDoorTimI
import Derived.LoopTactic
namespace Go.Proofs.YtbfhnfoaipaljaaDoor
open Go.ChangeShapes Go.WideShapes Go.ChangeAt Go.RowKit Pm

set_option maxRecDepth 100000 in
theorem time_any (k b p q t : Int) (ea ep eq : Addr) (w : World) (hF : FogsAt w) (hE : FogErrs ea ep eq w) :
    Calls Tryd.prog 62 #[fogV k b p q, .int .i64 t] w (RetT (sinceV k b p q t) (askC k b p q t) w) := by
  unfold sinceV
  cases h : fogOk k b p q
  · rw [show askC k b p q t = 1 by unfold askC; rw [h]; rfl, if_neg (by decide)]
    have HV := Lib.hid (fun w' (hb : Below w.heap.size w w') => h ▸ validfog_any k b p q ea ep eq w' (hF.below hb) (hE.below hb))
    clear h hF hE
    go_enter Tryd.func62, Tryd.ntmps62
    go_wp2_with (go_at_call 19; (refine (HV.out _ (by go_grown)).mono ?_); rintro e w1 ⟨rfl, hb⟩; have AC := Lib.hid (Below.next (a := w) (by go_grown) hb); clear hb)
    go_ret2
    exact ⟨rfl, AC.out⟩
  · obtain ⟨_, _, p0, p1⟩ := ok_facts h
    have HV := Lib.hid (fun w' (hb : Below w.heap.size w w') => h ▸ validfog_any k b p q ea ep eq w' (hF.below hb) (hE.below hb))
    cases h2 : inB 0 1000000000000 [t]
    · rw [show askC k b p q t = 2 by unfold askC; rw [h, h2]; rfl, if_neg (by decide)]
      have HW := Lib.hid (fwithin t 0 1000000000000 false h2)
      clear h h2 hF hE p0 p1
      go_enter Tryd.func62, Tryd.ntmps62
      go_wp2_with (first
        | (go_at_call 19; (refine (HV.out _ (by go_grown)).mono ?_); rintro e w1 ⟨rfl, hb⟩; have AC := Lib.hid (Below.next (a := w) (by go_grown) hb); have ac := AC.out; have hs := ac.size; clear hb)
        | (go_at_call 68; (refine (HW.out _ _ ?_).mono ?_); (· simp); rintro e w2 ⟨rfl, rfl⟩))
      go_ret2
      exact ⟨rfl, by go_grown⟩
    · obtain ⟨t0, t1⟩ := inb_yes h2
      rw [show askC k b p q t = 0 by unfold askC; rw [h, h2]; rfl, if_pos rfl]
      have HW := Lib.hid (fwithin t 0 1000000000000 true h2)
      have et : t.tmod p = t % p := Int.tmod_eq_emod_of_nonneg t0
      have hp0 : ¬ p = 0 := by omega
      clear h h2 hF hE
      go_enter Tryd.func62, Tryd.ntmps62
      go_wp2_with (go_at_call 19; (refine (HV.out _ (by go_grown)).mono ?_); rintro e w1 ⟨rfl, hb⟩; refine Hid.out ?_)
      refine Lib.hid ?_
      have c2 := cell_below (a := ⟨w.heap.size, 2, none⟩) (v := .int .i64 p) (by go_cell) hb
      have hz : w.heap.size < w1.heap.size := by have := hb.size; simp at this; omega
      have ac := Below.next (a := w) (by go_grown) hb
      clear hb
      go_wp2_with (go_at_call 68; (refine (HW.out _ _ ?_).mono ?_); (· simp); rintro e w2 ⟨rfl, rfl⟩)
      go_ret2
      exact ⟨rfl, by go_grown⟩

end Go.Proofs.YtbfhnfoaipaljaaDoor
