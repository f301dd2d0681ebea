/- Reading a fog signal: the model's. -/
import Derived.Test.YtbfhnfoaipaljaaDoorRdgP
import Derived.Test.YtbfhnfoaipaljaaDoorFgtS
import Derived.Test.YtbfhnfoaipaljaaDoorSplit
namespace Go.Proofs.YtbfhnfoaipaljaaDoor
open Go.ChangeShapes Go.WideShapes Go.ChangeAt Go.RowKit Pm

theorem clxG {w : World} (R : World → Prop) (hR : ∀ w1 w2, R w1 → Below w1.heap.size w1 w2 → R w2) (h : R w) : ∃ S : World → Prop, (∀ w1 w2, S w1 → Below w1.heap.size w1 w2 → S w2) ∧ S w.drew ∧ ∀ p : Clx S, R p.v :=
  ⟨R, hR, hR _ _ h (Below.refl _ _).drew, fun p => p.h⟩
set_option maxRecDepth 100000 in
theorem snames_any (w : World) :
    Calls Tryd.prog 46 #[] w fun e w' => ∃ g, e = .returned (.slice (some ⟨g, 0, none⟩) 4 4) ∧ (∀ i : Nat, i < 4 → w'.cell? ⟨g, i, none⟩ = some (.string (fogNm ((i : Int) + 1)))) ∧ Below w.heap.size w w' := by
  go_enter Tryd.func46, Tryd.ntmps46
  go_wp2
  go_ret
  refine ⟨_, rfl, fun i hi => ?_, by go_grown⟩
  have : i = 0 ∨ i = 1 ∨ i = 2 ∨ i = 3 := by omega
  rcases this with rfl | rfl | rfl | rfl <;> (simp; rfl)
set_option maxRecDepth 100000 in
theorem sreadfog_len (s : ByteArray) (w : World) (hs : s.size ≤ 1048576) (hn : (cutS 32 s).length ≠ 3) :
    Calls Tryd.prog 42 #[.string s] w (RdRet (rdF s) w) := by
  have HV := Lib.hid (rdF_len hn)
  have HSP := Lib.hid (fun w' => ssplit_any s 32 w' hs)
  have hpos : 0 < (cutS 32 s).length := by rw [cutS_len]; omega
  obtain ⟨ps, hps⟩ : ∃ ps, ps = cutS 32 s := ⟨_, rfl⟩
  rw [← hps] at HSP hpos hn
  have hne : ((ps.length : Int) != 3) = true := by rw [bne_iff_ne]; omega
  clear hps hs
  unfold RdRet
  go_enter Tryd.func42, Tryd.ntmps42
  go_wp2_with (go_at_call 80; (refine (HSP.out _).mono ?_); rintro e w1 ⟨v, rfl, ho, hb⟩; refine Hid.out ?_)
  refine Lib.hid ?_
  have zc := (zero4 w 27).1.below hb
  have zf := (zero4 w 27).2.below hb
  have AC := Lib.hid (Below.next (a := w) (by go_grown) hb)
  clear hb
  rw [strV_len] at ho
  obtain ⟨g, cap, rfl, _, _⟩ := ho.form hpos
  have ZC := Lib.hid zc
  have ZF := Lib.hid zf
  have BR := Lib.hid (Below.refl w1.heap.size w1)
  clear ho HSP zc zf
  obtain ⟨z0, z1, z2, z3⟩ := ZC.out.below BR.out
  obtain ⟨_, y0, y1, y2, y3⟩ := ZF.out.below BR.out
  go_wp2_with (fail)
  refine bodyPost_ret (v := .tuple #[.agg #[.int .i64 0, .int .i64 0, .int .i64 0, .int .i64 0], .bool false]) (by simp [results, Tryd.results42, go_sem, *]) rfl ⟨by rw [HV.out], ?_⟩
  iterate 4 (refine Below.setCell ?_ (by exact Nat.le_refl _) _)
  exact Below.next AC.out BR.out
set_option maxRecDepth 100000 in
theorem sreadfog_bad (s a b c : ByteArray) (w : World) (hs : s.size ≤ 1048576) (hw : cutS 32 s = [a, b, c]) (hc : canB c.data.toList = false) :
    Calls Tryd.prog 42 #[.string s] w (RdRet (rd3 s a b c) w) := by
  have HV := Lib.hid (rd3_bad hw hc)
  have HSP := Lib.hid (fun w' => ssplit_any s 32 w' hs)
  rw [hw] at HSP
  have zs := cut_sizes hw
  have hnu := fun w' => snum_any c w' (by unfold maxLen; omega)
  rw [hc] at hnu
  have HNU := Lib.hid hnu
  clear hnu
  generalize numR c.data.toList = Q at *
  generalize rd3 s a b c = r at *
  clear hw hc zs hs
  unfold RdRet
  go_enter Tryd.func42, Tryd.ntmps42
  go_wp2_with (go_at_call 80; (refine (HSP.out _).mono ?_); rintro e w1 ⟨v, rfl, ho, hb⟩; refine Hid.out ?_)
  refine Lib.hid ?_
  have zc := (zero4 w 27).1.below hb
  have zf := (zero4 w 27).2.below hb
  have AC := Lib.hid (Below.next (a := w) (by go_grown) hb)
  clear hb
  rw [strV_len] at ho
  obtain ⟨g, cap, rfl, _, _⟩ := ho.form (show 0 < [a, b, c].length by simp)
  have k0 : w1.cell? ⟨g, 0, none⟩ = some (.string a) := ho.cellAt 0 (by simp)
  have k1 : w1.cell? ⟨g, 1, none⟩ = some (.string b) := ho.cellAt 1 (by simp)
  have k2 : w1.cell? ⟨g, 2, none⟩ = some (.string c) := ho.cellAt 2 (by simp)
  clear ho HSP
  have hne : ((([a, b, c] : List ByteArray).length : Int) != 3) = false := rfl
  have ZC := Lib.hid zc
  have ZF := Lib.hid zf
  have BR := Lib.hid (Below.refl w1.heap.size w1)
  clear zc zf
  obtain ⟨z0, z1, z2, z3⟩ := ZC.out.below BR.out
  obtain ⟨_, y0, y1, y2, y3⟩ := ZF.out.below BR.out
  go_wp2_with (go_at_call 81; (refine (HNU.out _).mono ?_); rintro e w' ⟨rfl, rfl⟩)
  refine bodyPost_ret (v := .tuple #[.agg #[.int .i64 0, .int .i64 0, .int .i64 0, .int .i64 0], .bool false]) (by simp [results, Tryd.results42, go_sem, *]) rfl ⟨by rw [HV.out], ?_⟩
  iterate 4 (refine Below.setCell ?_ (by exact Nat.le_refl _) _)
  exact Below.next AC.out BR.out
end Go.Proofs.YtbfhnfoaipaljaaDoor
