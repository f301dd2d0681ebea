/- Reading a signal: the model's function, its loop. -/
import Derived.Test.YtclbpjjnhfllkabDoorRsgS
namespace Go.Proofs.YtclbpjjnhfllkabDoor
open Go.ChangeShapes Go.WideShapes Go.ChangeAt Go.RowKit Pm

theorem fin_nil {ps : List Ph} {u : Int} (h : ps.length % 2 = 0) : Fin ps u [] := by unfold Fin; rw [txt_even h, if_neg (fun x => by cases x.1)]
set_option maxRecDepth 100000 in
set_option maxHeartbeats 20000000 in
theorem sread_row (b off c : Nat) (ps : List Ph) (u : Int) (w : World) (hu : 1 ≤ u ∧ u ≤ 50) (hl : ps.length ≤ 1048576) (hc : ∀ i, i < ps.length → w.cell? ⟨b, off + i * 2, none⟩ = some (.string (ps.getD i ph0).1) ∧ w.cell? ⟨b, off + i * 2 + 1, none⟩ = some (.int .i64 (ps.getD i ph0).2)) (hb : ∀ i, i < ps.length → -9223372036854775808 ≤ (ps.getD i ph0).2 ∧ (ps.getD i ph0).2 ≤ 9223372036854775807) :
    Calls Tryd.prog 12 #[.slice (some ⟨b, off, none⟩) ps.length c, .int .i64 u] w (SC (rdT ps u) (rdC ps u) w) := by
  have HC := Lib.hid hc
  have HBD := Lib.hid hb
  have HUN := Lib.hid (fun w => sunitR_any u w)
  rw [inU.2 hu] at HUN
  have HU := Lib.hid hu
  have HNO := Lib.hid (fun ht => rd_no (ps := ps) hu ht)
  have HYE := Lib.hid (fun o ht => rd_yes (ps := ps) (o := o) hu ht)
  have hu0 : ¬ u = 0 := by omega
  have wn : IntKind.i64.wrap ((ps.length : Int) - 1) = (ps.length : Int) - 1 := IntWalk.i64_in _ (by omega)
  have w0 : IntKind.i64.wrap 0 = 0 := by decide
  have w1 : IntKind.i64.wrap 1 = 1 := by decide
  have w3 : IntKind.i64.wrap 3 = 3 := by decide
  have w7 : IntKind.i64.wrap 7 = 7 := by decide
  clear hc hb hu
  go_enter Tryd.func12, Tryd.ntmps12
  go_wp2_with (go_at_call 32; refine (HUN.out _).mono ?_; rintro e w2 ⟨rfl, rfl⟩)
  go_loopw [6, 7, 8, 9, 10, 11] (fun o c i x q l wr => ∃ (k : Nat) (code out : List UInt8), k ≤ ps.length ∧ i = .int .i64 k ∧ o = .string ⟨out.toArray⟩ ∧ c = .string ⟨code.toArray⟩ ∧ ((k < ps.length ∧ RdAt ps u k code out) ∨ (k = ps.length ∧ Fin ps u out)) ∧ out.length ≤ 2 * k ∧ Below w.heap.size w wr) (fun _ _ i _ _ _ _ => ps.length - (intOf i).toNat)
  case atStart =>
    refine ⟨0, [], [], Nat.zero_le _, rfl, rfl, rfl, ?_, Nat.zero_le _, Below.refl _ _⟩
    rcases Nat.eq_zero_or_pos ps.length with h | h
    · exact .inr ⟨h.symm, fin_nil (by omega)⟩
    · exact .inl ⟨h, RdAt.start ps u⟩
  case round =>
    obtain ⟨k, code, out, hk, rfl, rfl, rfl, hst, hol, hbel⟩ := hrel
    have HBE := Lib.hid hbel
    obtain ⟨ob, hob⟩ : ∃ ob : ByteArray, ob = ⟨out.toArray⟩ := ⟨_, rfl⟩
    obtain ⟨cb, hcb⟩ : ∃ cb : ByteArray, cb = ⟨code.toArray⟩ := ⟨_, rfl⟩
    have hobs : ob.size ≤ 2 * k := by rw [hob, size_b]; exact hol
    rw [← hob, ← hcb]
    have HOB := Lib.hid hob
    have HCB := Lib.hid hcb
    clear hob hcb
    by_cases hlt : k < ps.length
    · obtain hrd : RdAt ps u k code out := by
        rcases hst with h | h
        · exact h.2
        · omega
      have HRD := Lib.hid hrd
      have hcbs : cb.size ≤ k := by rw [HCB.out, size_b]; exact hrd.clen
      have c0 := cell_below (HC.out k hlt).1 hbel
      have c1 := cell_below (HC.out k hlt).2 hbel
      have hkn : (k : Int) < (ps.length : Int) := by omega
      have hmb := HBD.out k hlt
      obtain ⟨s, hs⟩ : ∃ s, s = (ps.getD k ph0).1 := ⟨_, rfl⟩
      obtain ⟨m, hm⟩ : ∃ m, m = (ps.getD k ph0).2 := ⟨_, rfl⟩
      rw [← hs] at c0
      rw [← hm] at c1 hmb
      have hpr : ps.getD k ph0 = (s, m) := by rw [hs, hm]
      have HKD := Lib.hid (okP_def ps u k s m hpr)
      have HPR := Lib.hid hpr
      have HLT := Lib.hid hlt
      have HBAD := Lib.hid (show okP ps u k = false → rdT ps u = ⟨#[]⟩ ∧ rdC ps u = 9 from fun h => HNO.out (txt_bad hlt h))
      have HCL := Lib.hid (fun w => scol_any s w)
      have HBX := Lib.hid (Below.next hbel (show Below wr.heap.size wr (wr.alloc (.cells #[.string s, .int .i64 m] 45)) from (Below.refl _ _).alloc (Nat.le_refl _) _))
      have HQ1 := Lib.hid (tdiv_bdR HU.out.1 hmb)
      have HQ2 := Lib.hid (tmod_bdR (m := m) HU.out.1 HU.out.2)
      have HCE := Lib.hid (fun h => col_empty (s := s) h)
      obtain ⟨q, hq⟩ : ∃ q, m.tdiv u = q := ⟨_, rfl⟩
      obtain ⟨r, hr⟩ : ∃ r, m.tmod u = r := ⟨_, rfl⟩
      rw [hq] at HQ1
      rw [hr] at HQ2
      have wq : IntKind.i64.wrap q = q := IntWalk.i64_in _ (by have := HQ1.out; omega)
      have wr2 : IntKind.i64.wrap r = r := IntWalk.i64_in _ (by have := HQ2.out; omega)
      have hE1 : ∀ b, decide (k % 2 = 1) = b → ((k : Int) % 2 == 1) = b := fun b h => by
        rw [← h]; rw [Bool.eq_iff_iff, beq_iff_eq, decide_eq_true_iff]; omega
      have hE0 : ∀ b, decide (k % 2 = 1) = b → ((k : Int) % 2 == 0) = !b := fun b h => by
        rw [← h]; rw [Bool.eq_iff_iff, beq_iff_eq, Bool.not_eq_true', decide_eq_false_iff_not]; omega
      have HE1 := Lib.hid hE1
      have HE0 := Lib.hid hE0
      clear hs hm hpr hbel hst hrd hmb hlt hE1 hE0 hol
      by_cases h0 : r = 0
      · subst h0
        have HOL := Lib.hid (show out.length ≤ 2 * k by have h := HOB.out; rw [h, size_b] at hobs; exact hobs)
        cases he : s.toList.isEmpty <;> rcases Nat.mod_two_eq_zero_or_one k with hp | hp
        · have he1 := HE1.out false (by rw [hp]; rfl)
          have he0 := HE0.out false (by rw [hp]; rfl)
          simp only [Bool.not_false] at he0
          cases hc : colB s
          · rw [hc] at HCL
            have HF := Lib.hid (HBAD.out (by rw [HKD.out, prt_n hc he]; rfl))
            clear HKD HBAD HQ1 HQ2 HE1 HE0 HCE
            go_wp2_with (go_at_call 33; refine (HCL.out _).mono ?_; rintro e w2 ⟨rfl, rfl⟩)
            go_ret2
            exact sc_is HF.out.1.symm HF.out.2.symm HBX.out
          · rw [hc] at HCL
            by_cases kq : q = 1
            · rw [kq] at hq wq
              have hpt : partL u (ps.getD k ph0) = [46] := by rw [HPR.out]; unfold partL; rw [prt_c HU.out.1 hr hc, hq]; rfl
              have HKK := Lib.hid (show okP ps u k = true by rw [HKD.out, prt_c HU.out.1 hr hc, hq, he, hp]; rfl)
              have HSG := Lib.hid (HRD.out.sign (x := 46) HLT.out HKK.out (by first | exact .inl rfl | exact .inr rfl) hpt)
              have qc := fun w => run_string_add_sum (P := Tryd.prog) (w := w) cb ⟨#[46]⟩ (by have : (⟨#[46]⟩ : ByteArray).size = 1 := rfl; omega)
              have HCX := Lib.hid (show cb ++ ⟨#[46]⟩ = ⟨(code ++ [46]).toArray⟩ by rw [HCB.out]; exact cat_b code [46])
              clear hpt
              by_cases hlast : k + 1 = ps.length
              · have hodd : ps.length % 2 = 1 := by omega
                have HLS := Lib.hid (RdAt.last (by have h := HSG.out; rwa [hlast] at h) hodd)
                have wnk : IntKind.i64.wrap ((ps.length : Int) - 1) = (k : Int) := by rw [wn]; omega
                have HLAST := Lib.hid hlast
                clear wn
                cases hf : findL (code ++ [46]) with
                | none =>
                  have HFD := Lib.hid (fun w => sfind_any (cb ++ ⟨#[46]⟩) w)
                  have hfv : findV (cb ++ ⟨#[46]⟩) = ⟨#[]⟩ := by rw [HCX.out, ((findV_L (code ++ [46])).2 hf).1]
                  rw [hfv] at HFD
                  clear hfv
                  have HF := Lib.hid (HNO.out (HLS.out.1 hf))
                  clear hlast hf HLS hodd HRD HSG kq
                  clear HKD HBAD HQ1 HQ2 HE1 HE0 HCE
                  go_wp2_with (first
                    | (go_at_call 33; refine (HCL.out _).mono ?_; rintro e w2 ⟨rfl, rfl⟩)
                    | (go_at_call 34; refine (HFD.out _).mono ?_; rintro e w5 ⟨rfl, hb⟩; refine Hid.out ?_))
                  refine Lib.hid ?_
                  have HB5 := Lib.hid (Below.next HBX.out hb)
                  clear hb
                  go_wp2_with (fail)
                  go_ret2
                  exact sc_is HF.out.1.symm HF.out.2.symm HB5.out
                | some ol =>
                  obtain ⟨y, hy, hy1, hy2⟩ := findL_cap hf
                  obtain ⟨oo, hoo⟩ : ∃ oo : ByteArray, oo = ⟨ol.toArray⟩ := ⟨_, rfl⟩
                  have HFD := Lib.hid (fun w => sfind_any (cb ++ ⟨#[46]⟩) w)
                  have hfv : findV (cb ++ ⟨#[46]⟩) = oo := by rw [HCX.out, ((findV_L (code ++ [46])).1 ol hf).1, ← hoo]
                  rw [hfv] at HFD
                  clear hfv
                  have hoe : oo.toList.isEmpty = false := by rw [hoo, hy, ByteArray.toList_eq]; rfl
                  have hos : oo.size = 1 := by rw [hoo, size_b, hy]; rfl
                  have HOO := Lib.hid hoo
                  have HOLL := Lib.hid (show ol.length = 1 by rw [hy]; rfl)
                  have q1 := fun w => run_string_add_sum (P := Tryd.prog) (w := w) ob oo (by omega)
                  have HFN := Lib.hid (show Fin ps u (out ++ ol) by
                    have h := HLS.out.2 ol hf
                    unfold Fin
                    rw [h.1, h.2]
                    simp)
                  clear hlast hf HLS hodd HRD HSG hoo hy hy1 hy2 kq
                  clear HKD HBAD HQ1 HQ2 HE1 HE0 HCE
                  go_wp2_with (first
                    | (go_at_call 33; refine (HCL.out _).mono ?_; rintro e w2 ⟨rfl, rfl⟩)
                    | (go_at_call 34; refine (HFD.out _).mono ?_; rintro e w5 ⟨rfl, hb⟩; refine Hid.out ?_))
                  refine Lib.hid ?_
                  have HB5 := Lib.hid (Below.next HBX.out hb)
                  clear hb
                  go_wp2_with (fail)
                  go_roundw
                  case rel => exact ⟨k + 1, [], out ++ ol, by have := HLT.out; omega, by go_num, by rw [HOB.out, HOO.out]; exact congrArg Value.string (cat_b out ol), rfl, .inr ⟨HLAST.out, HFN.out⟩, by have := HOL.out; have := HOLL.out; rw [List.length_append]; omega, HB5.out⟩
                  case measure => have := HLT.out; simp [intOf]; omega
              · have hla : ((k : Int) == (ps.length : Int) - 1) = false := by rw [beq_eq_false_iff_ne]; omega
                clear HRD kq
                clear HKD HBAD HQ1 HQ2 HE1 HE0 HCE
                go_wp2_with (go_at_call 33; refine (HCL.out _).mono ?_; rintro e w2 ⟨rfl, rfl⟩)
                go_roundw
                case rel => exact ⟨k + 1, code ++ [46], out, by have := HLT.out; omega, by go_num, by rw [HOB.out], by rw [HCX.out], .inl ⟨by have := HLT.out; omega, HSG.out⟩, by have := HOL.out; omega, HBX.out⟩
                case measure => have := HLT.out; simp [intOf]; omega
            · have q1z : (q == 1) = false := by rw [beq_eq_false_iff_ne]; exact kq
              have p1z : (q != 1) = true := by rw [bne, q1z]; rfl
              have k1 := kq
              clear kq
              by_cases kq : q = 3
              · rw [kq] at hq wq
                have hpt : partL u (ps.getD k ph0) = [45] := by rw [HPR.out]; unfold partL; rw [prt_c HU.out.1 hr hc, hq]; rfl
                have HKK := Lib.hid (show okP ps u k = true by rw [HKD.out, prt_c HU.out.1 hr hc, hq, he, hp]; rfl)
                have HSG := Lib.hid (HRD.out.sign (x := 45) HLT.out HKK.out (by first | exact .inl rfl | exact .inr rfl) hpt)
                have qc := fun w => run_string_add_sum (P := Tryd.prog) (w := w) cb ⟨#[45]⟩ (by have : (⟨#[45]⟩ : ByteArray).size = 1 := rfl; omega)
                have HCX := Lib.hid (show cb ++ ⟨#[45]⟩ = ⟨(code ++ [45]).toArray⟩ by rw [HCB.out]; exact cat_b code [45])
                clear hpt
                by_cases hlast : k + 1 = ps.length
                · have hodd : ps.length % 2 = 1 := by omega
                  have HLS := Lib.hid (RdAt.last (by have h := HSG.out; rwa [hlast] at h) hodd)
                  have wnk : IntKind.i64.wrap ((ps.length : Int) - 1) = (k : Int) := by rw [wn]; omega
                  have HLAST := Lib.hid hlast
                  clear wn
                  cases hf : findL (code ++ [45]) with
                  | none =>
                    have HFD := Lib.hid (fun w => sfind_any (cb ++ ⟨#[45]⟩) w)
                    have hfv : findV (cb ++ ⟨#[45]⟩) = ⟨#[]⟩ := by rw [HCX.out, ((findV_L (code ++ [45])).2 hf).1]
                    rw [hfv] at HFD
                    clear hfv
                    have HF := Lib.hid (HNO.out (HLS.out.1 hf))
                    clear hlast hf HLS hodd HRD HSG kq
                    clear HKD HBAD HQ1 HQ2 HE1 HE0 HCE
                    go_wp2_with (first
                      | (go_at_call 33; refine (HCL.out _).mono ?_; rintro e w2 ⟨rfl, rfl⟩)
                      | (go_at_call 34; refine (HFD.out _).mono ?_; rintro e w5 ⟨rfl, hb⟩; refine Hid.out ?_))
                    refine Lib.hid ?_
                    have HB5 := Lib.hid (Below.next HBX.out hb)
                    clear hb
                    go_wp2_with (fail)
                    go_ret2
                    exact sc_is HF.out.1.symm HF.out.2.symm HB5.out
                  | some ol =>
                    obtain ⟨y, hy, hy1, hy2⟩ := findL_cap hf
                    obtain ⟨oo, hoo⟩ : ∃ oo : ByteArray, oo = ⟨ol.toArray⟩ := ⟨_, rfl⟩
                    have HFD := Lib.hid (fun w => sfind_any (cb ++ ⟨#[45]⟩) w)
                    have hfv : findV (cb ++ ⟨#[45]⟩) = oo := by rw [HCX.out, ((findV_L (code ++ [45])).1 ol hf).1, ← hoo]
                    rw [hfv] at HFD
                    clear hfv
                    have hoe : oo.toList.isEmpty = false := by rw [hoo, hy, ByteArray.toList_eq]; rfl
                    have hos : oo.size = 1 := by rw [hoo, size_b, hy]; rfl
                    have HOO := Lib.hid hoo
                    have HOLL := Lib.hid (show ol.length = 1 by rw [hy]; rfl)
                    have q1 := fun w => run_string_add_sum (P := Tryd.prog) (w := w) ob oo (by omega)
                    have HFN := Lib.hid (show Fin ps u (out ++ ol) by
                      have h := HLS.out.2 ol hf
                      unfold Fin
                      rw [h.1, h.2]
                      simp)
                    clear hlast hf HLS hodd HRD HSG hoo hy hy1 hy2 kq
                    clear HKD HBAD HQ1 HQ2 HE1 HE0 HCE
                    go_wp2_with (first
                      | (go_at_call 33; refine (HCL.out _).mono ?_; rintro e w2 ⟨rfl, rfl⟩)
                      | (go_at_call 34; refine (HFD.out _).mono ?_; rintro e w5 ⟨rfl, hb⟩; refine Hid.out ?_))
                    refine Lib.hid ?_
                    have HB5 := Lib.hid (Below.next HBX.out hb)
                    clear hb
                    go_wp2_with (fail)
                    go_roundw
                    case rel => exact ⟨k + 1, [], out ++ ol, by have := HLT.out; omega, by go_num, by rw [HOB.out, HOO.out]; exact congrArg Value.string (cat_b out ol), rfl, .inr ⟨HLAST.out, HFN.out⟩, by have := HOL.out; have := HOLL.out; rw [List.length_append]; omega, HB5.out⟩
                    case measure => have := HLT.out; simp [intOf]; omega
                · have hla : ((k : Int) == (ps.length : Int) - 1) = false := by rw [beq_eq_false_iff_ne]; omega
                  clear HRD kq
                  clear HKD HBAD HQ1 HQ2 HE1 HE0 HCE
                  go_wp2_with (go_at_call 33; refine (HCL.out _).mono ?_; rintro e w2 ⟨rfl, rfl⟩)
                  go_roundw
                  case rel => exact ⟨k + 1, code ++ [45], out, by have := HLT.out; omega, by go_num, by rw [HOB.out], by rw [HCX.out], .inl ⟨by have := HLT.out; omega, HSG.out⟩, by have := HOL.out; omega, HBX.out⟩
                  case measure => have := HLT.out; simp [intOf]; omega
              · have k3 := kq
                clear kq
                have q1 : (q == 1) = false := by rw [beq_eq_false_iff_ne]; exact k1
                have p1 : (q != 1) = true := by rw [bne, q1]; rfl
                have q3 : (q == 3) = false := by rw [beq_eq_false_iff_ne]; exact k3
                have p3 : (q != 3) = true := by rw [bne, q3]; rfl
                have HF := Lib.hid (HBAD.out (by rw [HKD.out, prt_c HU.out.1 hr hc, hq, if_neg k1, if_neg k3]; rfl))
                clear HKD HBAD HQ1 HQ2 HE1 HE0 HCE
                go_wp2_with (go_at_call 33; refine (HCL.out _).mono ?_; rintro e w2 ⟨rfl, rfl⟩)
                go_ret2
                exact sc_is HF.out.1.symm HF.out.2.symm HBX.out
        · have he1 := HE1.out true (by rw [hp]; rfl)
          have he0 := HE0.out true (by rw [hp]; rfl)
          simp only [Bool.not_true] at he0
          have HF := Lib.hid (HBAD.out (by rw [HKD.out, he, hp]; simp))
          clear HKD HBAD HQ1 HQ2 HE1 HE0 HCE
          go_wp2_with (go_at_call 33; refine (HCL.out _).mono ?_; rintro e w2 ⟨rfl, rfl⟩)
          go_ret2
          exact sc_is HF.out.1.symm HF.out.2.symm HBX.out
        · have he1 := HE1.out false (by rw [hp]; rfl)
          have he0 := HE0.out false (by rw [hp]; rfl)
          simp only [Bool.not_false] at he0
          have HF := Lib.hid (HBAD.out (by rw [HKD.out, he, hp]; simp))
          clear HKD HBAD HQ1 HQ2 HE1 HE0 HCE
          go_wp2_with (go_at_call 33; refine (HCL.out _).mono ?_; rintro e w2 ⟨rfl, rfl⟩)
          go_ret2
          exact sc_is HF.out.1.symm HF.out.2.symm HBX.out
        · have he1 := HE1.out true (by rw [hp]; rfl)
          have he0 := HE0.out true (by rw [hp]; rfl)
          simp only [Bool.not_true] at he0
          have hc := HCE.out he
          rw [hc] at HCL
          by_cases kq : q = 1
          · have hpt : partL u (ps.getD k ph0) = [] := by rw [HPR.out]; unfold partL; rw [prt_e HU.out.1 hr he, hq, kq]; rfl
            have HKK := Lib.hid (show okP ps u k = true by rw [HKD.out, prt_e HU.out.1 hr he, hq, kq, he, hp]; rfl)
            rw [kq] at hq wq
            by_cases hlast : k + 1 = ps.length
            · have wnk : IntKind.i64.wrap ((ps.length : Int) - 1) = (k : Int) := by rw [wn]; omega
              have HLAST := Lib.hid hlast
              clear wn
              cases hf : findL code with
              | none =>
                have HFD := Lib.hid (fun w => sfind_any (cb) w)
                have hfv : findV (cb) = ⟨#[]⟩ := by rw [HCB.out, ((findV_L (code)).2 hf).1]
                rw [hfv] at HFD
                clear hfv
                have HF := Lib.hid (HNO.out (txt_even (u := u) (show ps.length % 2 = 0 by omega)))
                clear hlast hf HRD hpt kq
                clear HKD HBAD HQ1 HQ2 HE1 HE0 HCE
                go_wp2_with (first
                  | (go_at_call 33; refine (HCL.out _).mono ?_; rintro e w2 ⟨rfl, rfl⟩)
                  | (go_at_call 34; refine (HFD.out _).mono ?_; rintro e w5 ⟨rfl, hb⟩; refine Hid.out ?_))
                refine Lib.hid ?_
                have HB5 := Lib.hid (Below.next HBX.out hb)
                clear hb
                go_wp2_with (fail)
                go_ret2
                exact sc_is HF.out.1.symm HF.out.2.symm HB5.out
              | some ol =>
                obtain ⟨y, hy, hy1, hy2⟩ := findL_cap hf
                obtain ⟨oo, hoo⟩ : ∃ oo : ByteArray, oo = ⟨ol.toArray⟩ := ⟨_, rfl⟩
                have HFD := Lib.hid (fun w => sfind_any (cb) w)
                have hfv : findV (cb) = oo := by rw [HCB.out, ((findV_L (code)).1 ol hf).1, ← hoo]
                rw [hfv] at HFD
                clear hfv
                have hoe : oo.toList.isEmpty = false := by rw [hoo, hy, ByteArray.toList_eq]; rfl
                have hos : oo.size = 1 := by rw [hoo, size_b, hy]; rfl
                have HOO := Lib.hid hoo
                have HOLL := Lib.hid (show ol.length = 1 by rw [hy]; rfl)
                have q1 := fun w => run_string_add_sum (P := Tryd.prog) (w := w) ob oo (by omega)
                have HF := Lib.hid (HNO.out (txt_even (u := u) (show ps.length % 2 = 0 by omega)))
                clear hlast hf HRD hpt hoo hy hy1 hy2 kq
                clear HKD HBAD HQ1 HQ2 HE1 HE0 HCE
                go_wp2_with (first
                  | (go_at_call 33; refine (HCL.out _).mono ?_; rintro e w2 ⟨rfl, rfl⟩)
                  | (go_at_call 34; refine (HFD.out _).mono ?_; rintro e w5 ⟨rfl, hb⟩; refine Hid.out ?_))
                refine Lib.hid ?_
                have HB5 := Lib.hid (Below.next HBX.out hb)
                clear hb
                go_wp2_with (fail)
                go_ret2
                exact sc_is HF.out.1.symm HF.out.2.symm HB5.out
            · have hla : ((k : Int) == (ps.length : Int) - 1) = false := by rw [beq_eq_false_iff_ne]; omega
              have HSG := Lib.hid (HRD.out.pause1 HLT.out HKK.out hpt)
              clear HRD hpt kq
              clear HKD HBAD HQ1 HQ2 HE1 HE0 HCE
              go_wp2_with (go_at_call 33; refine (HCL.out _).mono ?_; rintro e w2 ⟨rfl, rfl⟩)
              go_roundw
              case rel => exact ⟨k + 1, code, out, by have := HLT.out; omega, by go_num, by rw [HOB.out], by rw [HCB.out], .inl ⟨by have := HLT.out; omega, HSG.out⟩, by have := HOL.out; omega, HBX.out⟩
              case measure => have := HLT.out; simp [intOf]; omega
          · have k1 := kq
            clear kq
            have q1z : (q == 1) = false := by rw [beq_eq_false_iff_ne]; exact k1
            have p1z : (q != 1) = true := by rw [bne, q1z]; rfl
            by_cases kq : q = 3
            · have hpt : partL u (ps.getD k ph0) = [32] := by rw [HPR.out]; unfold partL; rw [prt_e HU.out.1 hr he, hq, kq]; rfl
              have HKK := Lib.hid (show okP ps u k = true by rw [HKD.out, prt_e HU.out.1 hr he, hq, kq, he, hp]; rfl)
              rw [kq] at hq wq
              by_cases hlast : k + 1 = ps.length
              · have wnk : IntKind.i64.wrap ((ps.length : Int) - 1) = (k : Int) := by rw [wn]; omega
                have HLAST := Lib.hid hlast
                clear wn
                cases hf : findL code with
                | none =>
                  have HFD := Lib.hid (fun w => sfind_any (cb) w)
                  have hfv : findV (cb) = ⟨#[]⟩ := by rw [HCB.out, ((findV_L (code)).2 hf).1]
                  rw [hfv] at HFD
                  clear hfv
                  have HF := Lib.hid (HNO.out (txt_even (u := u) (show ps.length % 2 = 0 by omega)))
                  clear hlast hf HRD hpt kq
                  clear HKD HBAD HQ1 HQ2 HE1 HE0 HCE
                  go_wp2_with (first
                    | (go_at_call 33; refine (HCL.out _).mono ?_; rintro e w2 ⟨rfl, rfl⟩)
                    | (go_at_call 34; refine (HFD.out _).mono ?_; rintro e w5 ⟨rfl, hb⟩; refine Hid.out ?_))
                  refine Lib.hid ?_
                  have HB5 := Lib.hid (Below.next HBX.out hb)
                  clear hb
                  go_wp2_with (fail)
                  go_ret2
                  exact sc_is HF.out.1.symm HF.out.2.symm HB5.out
                | some ol =>
                  obtain ⟨y, hy, hy1, hy2⟩ := findL_cap hf
                  obtain ⟨oo, hoo⟩ : ∃ oo : ByteArray, oo = ⟨ol.toArray⟩ := ⟨_, rfl⟩
                  have HFD := Lib.hid (fun w => sfind_any (cb) w)
                  have hfv : findV (cb) = oo := by rw [HCB.out, ((findV_L (code)).1 ol hf).1, ← hoo]
                  rw [hfv] at HFD
                  clear hfv
                  have hoe : oo.toList.isEmpty = false := by rw [hoo, hy, ByteArray.toList_eq]; rfl
                  have hos : oo.size = 1 := by rw [hoo, size_b, hy]; rfl
                  have HOO := Lib.hid hoo
                  have HOLL := Lib.hid (show ol.length = 1 by rw [hy]; rfl)
                  have q1 := fun w => run_string_add_sum (P := Tryd.prog) (w := w) ob oo (by omega)
                  have HF := Lib.hid (HNO.out (txt_even (u := u) (show ps.length % 2 = 0 by omega)))
                  clear hlast hf HRD hpt hoo hy hy1 hy2 kq
                  clear HKD HBAD HQ1 HQ2 HE1 HE0 HCE
                  go_wp2_with (first
                    | (go_at_call 33; refine (HCL.out _).mono ?_; rintro e w2 ⟨rfl, rfl⟩)
                    | (go_at_call 34; refine (HFD.out _).mono ?_; rintro e w5 ⟨rfl, hb⟩; refine Hid.out ?_))
                  refine Lib.hid ?_
                  have HB5 := Lib.hid (Below.next HBX.out hb)
                  clear hb
                  go_wp2_with (fail)
                  go_ret2
                  exact sc_is HF.out.1.symm HF.out.2.symm HB5.out
              · have hla : ((k : Int) == (ps.length : Int) - 1) = false := by rw [beq_eq_false_iff_ne]; omega
                cases hf : findL code with
                | none =>
                  have HFD := Lib.hid (fun w => sfind_any (cb) w)
                  have hfv : findV (cb) = ⟨#[]⟩ := by rw [HCB.out, ((findV_L (code)).2 hf).1]
                  rw [hfv] at HFD
                  clear hfv
                  have HF := Lib.hid (HNO.out (HRD.out.no_letter (R := [[]]) HLT.out hpt rfl (by simp) hf))
                  clear hf HRD hpt kq
                  clear HKD HBAD HQ1 HQ2 HE1 HE0 HCE
                  go_wp2_with (first
                    | (go_at_call 33; refine (HCL.out _).mono ?_; rintro e w2 ⟨rfl, rfl⟩)
                    | (go_at_call 34; refine (HFD.out _).mono ?_; rintro e w5 ⟨rfl, hb⟩; refine Hid.out ?_))
                  refine Lib.hid ?_
                  have HB5 := Lib.hid (Below.next HBX.out hb)
                  clear hb
                  go_wp2_with (fail)
                  go_ret2
                  exact sc_is HF.out.1.symm HF.out.2.symm HB5.out
                | some ol =>
                  obtain ⟨y, hy, hy1, hy2⟩ := findL_cap hf
                  obtain ⟨oo, hoo⟩ : ∃ oo : ByteArray, oo = ⟨ol.toArray⟩ := ⟨_, rfl⟩
                  have HFD := Lib.hid (fun w => sfind_any (cb) w)
                  have hfv : findV (cb) = oo := by rw [HCB.out, ((findV_L (code)).1 ol hf).1, ← hoo]
                  rw [hfv] at HFD
                  clear hfv
                  have hoe : oo.toList.isEmpty = false := by rw [hoo, hy, ByteArray.toList_eq]; rfl
                  have hos : oo.size = 1 := by rw [hoo, size_b, hy]; rfl
                  have HOO := Lib.hid hoo
                  have HOLL := Lib.hid (show ol.length = 1 by rw [hy]; rfl)
                  have q1 := fun w => run_string_add_sum (P := Tryd.prog) (w := w) ob oo (by omega)
                  have HSG := Lib.hid (HRD.out.pause3 HLT.out HKK.out hpt hf)
                  clear hf HRD hpt hoo hy hy1 hy2 kq
                  clear HKD HBAD HQ1 HQ2 HE1 HE0 HCE
                  go_wp2_with (first
                    | (go_at_call 33; refine (HCL.out _).mono ?_; rintro e w2 ⟨rfl, rfl⟩)
                    | (go_at_call 34; refine (HFD.out _).mono ?_; rintro e w5 ⟨rfl, hb⟩; refine Hid.out ?_))
                  refine Lib.hid ?_
                  have HB5 := Lib.hid (Below.next HBX.out hb)
                  clear hb
                  go_wp2_with (fail)
                  go_roundw
                  case rel => exact ⟨k + 1, [], out ++ ol, by have := HLT.out; omega, by go_num, by rw [HOB.out, HOO.out]; exact congrArg Value.string (cat_b out ol), rfl, .inl ⟨by have := HLT.out; omega, HSG.out⟩, by have := HOL.out; have := HOLL.out; rw [List.length_append]; omega, HB5.out⟩
                  case measure => have := HLT.out; simp [intOf]; omega
            · have k3 := kq
              clear kq
              have q3z : (q == 3) = false := by rw [beq_eq_false_iff_ne]; exact k3
              have p3z : (q != 3) = true := by rw [bne, q3z]; rfl
              by_cases kq : q = 7
              · have hpt : partL u (ps.getD k ph0) = [32, 47, 32] := by rw [HPR.out]; unfold partL; rw [prt_e HU.out.1 hr he, hq, kq]; rfl
                have HKK := Lib.hid (show okP ps u k = true by rw [HKD.out, prt_e HU.out.1 hr he, hq, kq, he, hp]; rfl)
                rw [kq] at hq wq
                by_cases hlast : k + 1 = ps.length
                · have wnk : IntKind.i64.wrap ((ps.length : Int) - 1) = (k : Int) := by rw [wn]; omega
                  have HLAST := Lib.hid hlast
                  clear wn
                  cases hf : findL code with
                  | none =>
                    have HFD := Lib.hid (fun w => sfind_any (cb) w)
                    have hfv : findV (cb) = ⟨#[]⟩ := by rw [HCB.out, ((findV_L (code)).2 hf).1]
                    rw [hfv] at HFD
                    clear hfv
                    have HF := Lib.hid (HNO.out (txt_even (u := u) (show ps.length % 2 = 0 by omega)))
                    clear hlast hf HRD hpt kq
                    clear HKD HBAD HQ1 HQ2 HE1 HE0 HCE
                    go_wp2_with (first
                      | (go_at_call 33; refine (HCL.out _).mono ?_; rintro e w2 ⟨rfl, rfl⟩)
                      | (go_at_call 34; refine (HFD.out _).mono ?_; rintro e w5 ⟨rfl, hb⟩; refine Hid.out ?_))
                    refine Lib.hid ?_
                    have HB5 := Lib.hid (Below.next HBX.out hb)
                    clear hb
                    go_wp2_with (fail)
                    go_ret2
                    exact sc_is HF.out.1.symm HF.out.2.symm HB5.out
                  | some ol =>
                    obtain ⟨y, hy, hy1, hy2⟩ := findL_cap hf
                    obtain ⟨oo, hoo⟩ : ∃ oo : ByteArray, oo = ⟨ol.toArray⟩ := ⟨_, rfl⟩
                    have HFD := Lib.hid (fun w => sfind_any (cb) w)
                    have hfv : findV (cb) = oo := by rw [HCB.out, ((findV_L (code)).1 ol hf).1, ← hoo]
                    rw [hfv] at HFD
                    clear hfv
                    have hoe : oo.toList.isEmpty = false := by rw [hoo, hy, ByteArray.toList_eq]; rfl
                    have hos : oo.size = 1 := by rw [hoo, size_b, hy]; rfl
                    have HOO := Lib.hid hoo
                    have HOLL := Lib.hid (show ol.length = 1 by rw [hy]; rfl)
                    have q1 := fun w => run_string_add_sum (P := Tryd.prog) (w := w) ob oo (by omega)
                    have HF := Lib.hid (HNO.out (txt_even (u := u) (show ps.length % 2 = 0 by omega)))
                    clear hlast hf HRD hpt hoo hy hy1 hy2 kq
                    clear HKD HBAD HQ1 HQ2 HE1 HE0 HCE
                    go_wp2_with (first
                      | (go_at_call 33; refine (HCL.out _).mono ?_; rintro e w2 ⟨rfl, rfl⟩)
                      | (go_at_call 34; refine (HFD.out _).mono ?_; rintro e w5 ⟨rfl, hb⟩; refine Hid.out ?_))
                    refine Lib.hid ?_
                    have HB5 := Lib.hid (Below.next HBX.out hb)
                    clear hb
                    go_wp2_with (fail)
                    go_ret2
                    exact sc_is HF.out.1.symm HF.out.2.symm HB5.out
                · have hla : ((k : Int) == (ps.length : Int) - 1) = false := by rw [beq_eq_false_iff_ne]; omega
                  cases hf : findL code with
                  | none =>
                    have HFD := Lib.hid (fun w => sfind_any (cb) w)
                    have hfv : findV (cb) = ⟨#[]⟩ := by rw [HCB.out, ((findV_L (code)).2 hf).1]
                    rw [hfv] at HFD
                    clear hfv
                    have HF := Lib.hid (HNO.out (HRD.out.no_letter (R := [[47], []]) HLT.out hpt rfl (by simp) hf))
                    clear hf HRD hpt kq
                    clear HKD HBAD HQ1 HQ2 HE1 HE0 HCE
                    go_wp2_with (first
                      | (go_at_call 33; refine (HCL.out _).mono ?_; rintro e w2 ⟨rfl, rfl⟩)
                      | (go_at_call 34; refine (HFD.out _).mono ?_; rintro e w5 ⟨rfl, hb⟩; refine Hid.out ?_))
                    refine Lib.hid ?_
                    have HB5 := Lib.hid (Below.next HBX.out hb)
                    clear hb
                    go_wp2_with (fail)
                    go_ret2
                    exact sc_is HF.out.1.symm HF.out.2.symm HB5.out
                  | some ol =>
                    obtain ⟨y, hy, hy1, hy2⟩ := findL_cap hf
                    obtain ⟨oo, hoo⟩ : ∃ oo : ByteArray, oo = ⟨ol.toArray⟩ := ⟨_, rfl⟩
                    have HFD := Lib.hid (fun w => sfind_any (cb) w)
                    have hfv : findV (cb) = oo := by rw [HCB.out, ((findV_L (code)).1 ol hf).1, ← hoo]
                    rw [hfv] at HFD
                    clear hfv
                    have hoe : oo.toList.isEmpty = false := by rw [hoo, hy, ByteArray.toList_eq]; rfl
                    have hos : oo.size = 1 := by rw [hoo, size_b, hy]; rfl
                    have HOO := Lib.hid hoo
                    have HOLL := Lib.hid (show ol.length = 1 by rw [hy]; rfl)
                    have q1 := fun w => run_string_add_sum (P := Tryd.prog) (w := w) ob oo (by omega)
                    have HSG := Lib.hid (HRD.out.pause7 HLT.out HKK.out hpt hf)
                    have q2 := fun w => run_string_add_sum (P := Tryd.prog) (w := w) (ob ++ oo) ⟨#[32]⟩ (by have : (⟨#[32]⟩ : ByteArray).size = 1 := rfl; rw [ByteArray.size_append]; omega)
                    clear hf HRD hpt hoo hy hy1 hy2 kq
                    clear HKD HBAD HQ1 HQ2 HE1 HE0 HCE
                    go_wp2_with (first
                      | (go_at_call 33; refine (HCL.out _).mono ?_; rintro e w2 ⟨rfl, rfl⟩)
                      | (go_at_call 34; refine (HFD.out _).mono ?_; rintro e w5 ⟨rfl, hb⟩; refine Hid.out ?_))
                    refine Lib.hid ?_
                    have HB5 := Lib.hid (Below.next HBX.out hb)
                    clear hb
                    go_wp2_with (fail)
                    go_roundw
                    case rel => exact ⟨k + 1, [], out ++ ol ++ [32], by have := HLT.out; omega, by go_num, by rw [HOB.out, HOO.out]; exact congrArg Value.string (by rw [cat_b, cat_b]), rfl, .inl ⟨by have := HLT.out; omega, HSG.out⟩, by have := HOL.out; have := HOLL.out; rw [List.length_append, List.length_append]; simp only [List.length_cons, List.length_nil]; omega, HB5.out⟩
                    case measure => have := HLT.out; simp [intOf]; omega
              · have k7 := kq
                clear kq
                have q7z : (q == 7) = false := by rw [beq_eq_false_iff_ne]; exact k7
                have p7z : (q != 7) = true := by rw [bne, q7z]; rfl
                have HF := Lib.hid (HBAD.out (by rw [HKD.out, prt_e HU.out.1 hr he, hq, if_neg k1, if_neg k3, if_neg k7]; rfl))
                clear HKD HBAD HQ1 HQ2 HE1 HE0 HCE
                go_wp2_with (go_at_call 33; refine (HCL.out _).mono ?_; rintro e w2 ⟨rfl, rfl⟩)
                go_ret2
                exact sc_is HF.out.1.symm HF.out.2.symm HBX.out
      · have hr0 : (r == 0) = false := by rw [beq_eq_false_iff_ne]; exact h0
        have hr1 : (r != 0) = true := by rw [bne, hr0]; rfl
        have HF := Lib.hid (HBAD.out (by rw [HKD.out, prt_r (by rw [hr]; exact h0)]; rfl))
        clear HKD HBAD HQ1 HQ2 HE1 HE0 HCE
        go_wp2_with (go_at_call 33; refine (HCL.out _).mono ?_; rintro e w2 ⟨rfl, rfl⟩)
        go_ret2
        exact sc_is HF.out.1.symm HF.out.2.symm HBX.out
    · obtain rfl : k = ps.length := by omega
      have HFN := Lib.hid (show Fin ps u out by
        rcases hst with h | h
        · omega
        · exact h.2)
      have HTX := Lib.hid (fun w => stextR_any ob w (by omega))
      have hsn : sntB ob = decide (okF true out = true ∧ out.length ≤ 12) := by
        unfold sntB
        rw [HOB.out, size_b]
        cases okF true out <;> simp
      cases hb : sntB ob
      · rw [hb] at HTX
        have HF := Lib.hid (HNO.out (by
          have h := HFN.out
          unfold Fin at h
          rw [h, if_neg (by rw [hsn] at hb; simpa using hb)]))
        clear hst hbel hsn hb
        go_wp2_with (go_at_call 35; refine (HTX.out _).mono ?_; rintro e w5 ⟨rfl, rfl⟩)
        go_ret2
        exact sc_is HF.out.1.symm HF.out.2.symm HBE.out
      · rw [hb] at HTX
        have HF := Lib.hid (HYE.out out (by
          have h := HFN.out
          unfold Fin at h
          rw [h, if_pos (by rw [hsn] at hb; simpa using hb)]))
        clear hst hbel hsn hb
        go_wp2_with (go_at_call 35; refine (HTX.out _).mono ?_; rintro e w5 ⟨rfl, rfl⟩)
        go_ret2
        exact sc_is (by rw [HOB.out]; exact HF.out.1.symm) HF.out.2.symm HBE.out
end Go.Proofs.YtclbpjjnhfllkabDoor
