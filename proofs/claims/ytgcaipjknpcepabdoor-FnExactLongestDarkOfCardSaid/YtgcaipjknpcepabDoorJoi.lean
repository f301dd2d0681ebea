/- Joining tenths into phases: the model's function. -/
import Derived.Test.YtgcaipjknpcepabDoorRunM
import Derived.Test.YtgcaipjknpcepabDoorPhsN
import Derived.Test.YtgcaipjknpcepabDoorPerS
namespace Go.Proofs.YtgcaipjknpcepabDoor
open Go.ChangeShapes Go.WideShapes Go.ChangeAt Go.RowKit Pm

theorem wpList_app_phj {ops : Array Oper} {rest : List Oper} {o : Oper} {a : Act} {Q : Exit → Act → World → Prop} (hgd : o.guard = none) (s x : Operand)
    (B : Nat) (v : Value) (ps : List Ph) (p : Ph) (w0 wr : World) (T : TypeId) (hown : OwnPh wr B v ps) (hb : Below B w0 wr) (hB : B ≤ w0.heap.size) (hl : ps.length ≤ 1048577)
    (ho : o.op = .call { callee := .builtin .append, args := #[s, x], argTypes := #[24, 24] })
    (hs : a.eval s = v) (n : Nat) (hn : wr.heap.size = n) (hx : a.eval x = .slice (some ⟨n, 0, none⟩) 1 1)
    (h : ∀ v' w', OwnPh w' B v' (ps ++ [p]) → Below B w0 w' → wpList Tryd.prog ops Q rest (a.put o.dst v') w') :
    wpList Tryd.prog ops Q (o :: rest) a (wr.alloc (.cells #[.string p.1, .int .i64 p.2] T)) := by
  subst hn
  exact wpList_app_ph hgd s x B v ps p w0 wr T hown hb hB hl ho hs hx h
theorem OwnPh.litj (w : World) : OwnPh (w.alloc (.cells #[] 43)) w.heap.size (.slice (some ⟨w.heap.size, 0, Option.none⟩) 0 0) [] := World.ownsRow_lit w #[] 0 (Nat.le_refl _) (by unfold maxLen; omega) rfl
theorem snoc_cases (ps : List Ph) : ps = [] ∨ ∃ qs z n, ps = qs ++ [(z, n)] := by
  rcases List.eq_nil_or_concat ps with rfl | ⟨qs, ⟨z, n⟩, h⟩
  · exact .inl rfl
  · exact .inr ⟨qs, z, n, by rw [h, List.concat_eq_append]⟩
/-- The last phase of a row of the call's own. -/
theorem OwnPh.last {w : World} {B g cap : Nat} {ps : List Ph} {x : ByteArray} {n : Int} (h : OwnPh w B (.slice (some ⟨g, 0, Option.none⟩) (ps.length + 1) cap) (ps ++ [(x, n)])) :
    w.cell? ⟨g, ps.length * 2, Option.none⟩ = some (.string x) ∧ w.cell? ⟨g, ps.length * 2 + 1, Option.none⟩ = some (.int .i64 n) ∧ w.frozen? ⟨g, ps.length * 2 + 1, Option.none⟩ = false ∧
    ∀ m : Int, OwnPh (w.setCell ⟨g, ps.length * 2 + 1, Option.none⟩ (.int .i64 m)) B (.slice (some ⟨g, 0, Option.none⟩) (ps.length + 1) cap) (ps ++ [(x, m)]) := by
  have h' : w.ownsRow B 43 2 (.slice (some ⟨g, 0, Option.none⟩) (ps.length + 1) cap) (ps.length + 1) (phV (ps ++ [(x, n)])) := by
    have := h; unfold OwnPh at this; rw [show (ps ++ [(x, n)]).length = ps.length + 1 by simp] at this; exact this
  obtain ⟨v0, v1⟩ := phV_at (ps ++ [(x, n)]) ps.length (by simp)
  rw [show (ps ++ [(x, n)]).getD ps.length ph0 = (x, n) by simp] at v0 v1
  refine ⟨(h'.cellAt (ps.length * 2) (by omega)).trans v0, (h'.cellAt (ps.length * 2 + 1) (by omega)).trans v1, h'.frozenAt _, fun m => ?_⟩
  have h2 := (World.ownsRow.stored h' (ps.length * 2 + 1) (.int .i64 m)).1
  have e : (phV (ps ++ [(x, n)])).set (ps.length * 2 + 1) (.int .i64 m) = phV (ps ++ [(x, m)]) := by
    have e1 := phV_len ps
    rw [phV_app, phV_app, List.set_append_right _ _ (by omega), e1]
    rw [show ps.length * 2 + 1 - ps.length * 2 = 1 by omega]
    rfl
  rw [e] at h2
  unfold OwnPh
  rw [show (ps ++ [(x, m)]).length = ps.length + 1 by simp]
  exact h2
set_option maxRecDepth 100000 in
set_option maxHeartbeats 2000000 in
theorem sjoin_any (g cap : Nat) (l : List UInt8) (b : Nat) (w : World) (hp : 1 ≤ l.length) (hq : l.length ≤ 600) (hb : b < l.length) (hc : BytAt w g l) :
    Calls Tryd.prog 23 #[.slice (some ⟨g, 0, none⟩) l.length cap, .int .i64 b] w (CopyPh (phsR (rotL l b)) w) := by
  have HC := Lib.hid hc
  clear hc
  have hl0 : ¬ ((l.length : Int) == 0) = true := by simp only [beq_iff_eq]; omega
  go_enter Tryd.func23, Tryd.ntmps23
  go_wp2_with (fail)
  go_loopw [5, 6] (fun o i wr => ∃ (k : Nat), k ≤ l.length ∧ i = .int .i64 k ∧ OwnPh wr w.heap.size o (phsR ((rotL l b).take k)) ∧ Below w.heap.size w wr) (fun _ i _ => l.length - (intOf i).toNat)
  case atStart => exact ⟨0, Nat.zero_le _, rfl, OwnPh.litj w, by go_grown⟩
  case round =>
    obtain ⟨k, hk, rfl, hown, hbel⟩ := hrel
    by_cases hlt : k < l.length
    · have hkn : (k : Int) < (l.length : Int) := by omega
      have hm1 : (b + k) % l.length < l.length := Nat.mod_lt _ hp
      have c0 := cell_below (HC.out _ hm1) hbel
      have hx0 : l[(b + k) % l.length] = (rotL l b)[k]'(by rw [rotL_len]; exact hlt) := by
        rw [rot_get l b k (by omega) hlt, ← ever_mod, ← ever_lt l _ hm1, ever_mod, ever_mod, Nat.add_comm]
      rw [hx0] at c0
      have hsn : phsR ((rotL l b).take (k + 1)) = bumpP (nameV ((rotL l b)[k]'(by rw [rotL_len]; exact hlt))) (phsR ((rotL l b).take k)) := by
        rw [List.take_succ_eq_append_getElem (by rw [rotL_len]; exact hlt), phsR_snoc]
      have hpl := phsR_len ((rotL l b).take k)
      rw [List.length_take, rotL_len] at hpl
      have hbnd := phsR_bnd ((rotL l b).take k)
      rw [List.length_take, rotL_len] at hbnd
      obtain ⟨x, hx⟩ : ∃ x, x = (rotL l b)[k]'(by rw [rotL_len]; exact hlt) := ⟨_, rfl⟩
      rw [← hx] at c0 hsn
      obtain ⟨ps, hps⟩ : ∃ ps, ps = phsR ((rotL l b).take k) := ⟨_, rfl⟩
      rw [← hps] at hsn hpl hown hbnd
      have HBN := Lib.hid hbnd
      clear hbnd
      have HSN := Lib.hid hsn
      have HO := Lib.hid hown
      have HB := Lib.hid hbel
      have hI3 : ((b : Int) + (k : Int)) % (l.length : Int) < (l.length : Int) := Int.emod_lt_of_pos _ (by omega)
      have hI4 : 0 ≤ ((b : Int) + (k : Int)) % (l.length : Int) := Int.emod_nonneg _ (by omega)
      have HNM := Lib.hid (fun w => sname_any x w)
      obtain ⟨y, hy⟩ : ∃ y, y = nameV x := ⟨_, rfl⟩
      rw [← hy] at HNM HSN
      clear hsn hown hbel hx0 hx hps hy
      go_wp2_with (go_at_call 40; refine (HNM.out _).mono ?_; rintro e w4 ⟨rfl, hb⟩; refine Hid.out ?_)
      refine Lib.hid ?_
      have HO := Lib.hid (HO.out.below hb)
      have HB := Lib.hid (Below.next HB.out hb)
      clear hb
      rcases snoc_cases ps with rfl | ⟨qs, z, n, rfl⟩
      · have HS1 := Lib.hid (HSN.out.trans (bumpP_nil y))
        clear HSN
        rcases HO.out.form with ⟨rfl, _⟩ | ⟨g2, cap2, rfl, hg2⟩
        · go_wp2_with (at_builtin; (refine wpList_app_phj rfl _ _ w.heap.size _ [] (y, 1) w w4 _ HO.out HB.out (Nat.le_refl _) (by simp) rfl rfl _ rfl rfl ?_))
          intro v' w5 h5 hb5
          have HO5 := Lib.hid h5
          have HB5 := Lib.hid hb5
          clear h5 hb5
          go_wp2
          refine ⟨⟨k + 1, by omega, rfl, by rw [HS1.out]; exact HO5.out, HB5.out⟩, ?_⟩
          show l.length - ((k : Int) + 1).toNat < l.length - ((k : Int)).toNat
          omega
        · go_wp2_with (at_builtin; (refine wpList_app_phj rfl _ _ w.heap.size _ [] (y, 1) w w4 _ HO.out HB.out (Nat.le_refl _) (by simp) rfl rfl _ rfl rfl ?_))
          intro v' w5 h5 hb5
          have HO5 := Lib.hid h5
          have HB5 := Lib.hid hb5
          clear h5 hb5
          go_wp2
          refine ⟨⟨k + 1, by omega, rfl, by rw [HS1.out]; exact HO5.out, HB5.out⟩, ?_⟩
          show l.length - ((k : Int) + 1).toNat < l.length - ((k : Int)).toNat
          omega
      · rcases HO.out.form with ⟨_, e⟩ | ⟨g2, cap2, rfl, hg2⟩
        · exact absurd e (by simp)
        have hqz : (qs ++ [(z, n)]).length = qs.length + 1 := by simp
        have hm6 : qs.length ≤ 600 := by omega
        have hho := HO.out
        rw [hqz] at hho
        obtain ⟨c1, c2, c3, c4⟩ := OwnPh.last hho
        have HPT := Lib.hid (c4 (n + 1))
        clear c4 hho hpl
        obtain ⟨m, hm⟩ : ∃ m, m = qs.length := ⟨_, rfl⟩
        rw [← hm] at c1 c2 c3 HPT hqz hm6
        have HQZ := Lib.hid hqz
        have HO := Lib.hid (show w4.ownsRow w.heap.size 43 2 (.slice (some ⟨g2, 0, none⟩) (m + 1) cap2) (m + 1) (phV (qs ++ [(z, n)])) by have := HO.out; unfold OwnPh at this; rw [hqz] at this; exact this)
        rw [hqz]
        by_cases hzy : z = y
        · subst hzy
          have HS1 := Lib.hid (HSN.out.trans (bumpP_same z qs n))
          have hn := HBN.out (z, n) (by simp)
          simp only at hn
          obtain ⟨hn1, hn2⟩ := hn
          have hn3 : n ≤ 600 := by omega
          clear HSN hqz hm hn2
          go_wp2_with (fail)
          refine ⟨⟨k + 1, by omega, rfl, ?_, HB.out.setCell hg2 _⟩, ?_⟩
          · rw [HS1.out]; exact HPT.out
          · show l.length - ((k : Int) + 1).toNat < l.length - ((k : Int)).toNat
            omega
        · have HS1 := Lib.hid (HSN.out.trans (bumpP_other y z qs n hzy))
          have hzt : (z.toList == y.toList) = false := by
            rw [beq_eq_false_iff_ne]
            intro e
            exact hzy (WideShapes.bytes_inj (by rw [ByteArray.toList_eq, ByteArray.toList_eq] at e; exact e))
          clear c2 c3 HPT HSN hqz hzy hm HBN
          go_wp2_with (at_builtin; (refine wpList_app_phj rfl _ _ w.heap.size _ (qs ++ [(z, n)]) (y, 1) w w4 _ (by unfold OwnPh; rw [HQZ.out]; exact HO.out) HB.out (Nat.le_refl _) (by rw [HQZ.out]; omega) rfl rfl _ rfl rfl ?_))
          intro v' w5 h5 hb5
          have HO5 := Lib.hid h5
          have HB5 := Lib.hid hb5
          clear h5 hb5
          go_wp2
          refine ⟨⟨k + 1, by omega, rfl, by rw [HS1.out, List.append_assoc]; exact HO5.out, HB5.out⟩, ?_⟩
          show l.length - ((k : Int) + 1).toNat < l.length - ((k : Int)).toNat
          omega
    · have hkn : ¬ (k : Int) < (l.length : Int) := by omega
      go_wp2
      go_ret
      rw [List.take_of_length_le (by rw [rotL_len]; omega)] at hown
      exact ⟨_, rfl, hown, hbel⟩
end Go.Proofs.YtgcaipjknpcepabDoor
