/- The color of a bearing: the model's and the program's. -/
import Derived.Test.YtclbpjjnhfllkaaCirS
import Derived.Test.YtclbpjjnhfllkaaSecI
namespace Go.Proofs.Ytclbpjjnhfllkaa
open Go.ChangeShapes Go.WideShapes Go.ChangeAt Go.RowKit Pm

theorem Clw.same {S : World → Prop} (p : Clw S) {P : Program} {f : FuncId} {args : Array Value} {v : Value}
    (h : Calls P f args p.v fun e w' => e = .returned v ∧ p.v = w') : Calls P f args p.v fun e w'' => e = .returned v ∧ ∃ q : Clw S, w'' = q.v :=
  h.mono fun _ _ ⟨he, hw⟩ => ⟨he, p, hw.symm⟩
theorem has_any (f t : Int) (s : ByteArray) (d : Int) (w : World) (hf : 0 ≤ f ∧ f ≤ 359) :
    Calls Try.prog 51 #[.agg #[.int .i64 f, .int .i64 t, .string s], .int .i64 d] w fun e w' => e = .returned (.bool (hasB (f, t, s) (ang d))) ∧ Below w.heap.size w w' := by
  have HA := Lib.hid (fun w => arcof_any f t s w)
  have HD := Lib.hid (fun w => angle_any d w)
  have HE := Lib.hid (fun w => angle_any (ang d - f) w)
  have hd := ang_bd d
  have HV := Lib.hid (show hasB (f, t, s) (ang d) = decide (ang (ang d - f) < arcS (f, t, s)) from rfl)
  have hd2 := ang_bd (ang d - f)
  have hd3 := arcS_bd (f, t, s)
  obtain ⟨f0, f1⟩ := hf
  have HB := Lib.hid (show Below w.heap.size w (w.alloc (.cells #[.int .i64 f, .int .i64 t, .string s] 26)) from (Below.refl _ _).alloc (Nat.le_refl _) _)
  generalize ang (ang d - f) = y at *
  generalize ang d = x at *
  generalize arcS (f, t, s) = z at *
  obtain ⟨S, hcl, hS0, k0, k1, k2, k3, kB⟩ := clw4 (w0 := w) (w := w.alloc (.cells #[.int .i64 f, .int .i64 t, .string s] 26)) (a0 := ⟨w.heap.size, 0, none⟩) (a1 := ⟨w.heap.size, 1, none⟩) (a2 := ⟨w.heap.size, 2, none⟩) (a3 := ⟨w.heap.size, 0, none⟩) (v0 := .int .i64 f) (v1 := .int .i64 t) (v2 := .string s) (v3 := .int .i64 f) ⟨by simp, by simp, by simp, by simp, HB.out⟩
  have hne : Nonempty (Clw S) := ⟨⟨_, hS0⟩⟩
  go_enter Try.func51, Try.ntmps51
  go_wp2_with (fail)
  refine wp_region_clw S (by kernel_rfl) (by kernel_rfl) hS0 ?_
  repeat (go_big_quiet_step (first
    | (go_at_call 48; (first | (with_reducible exact Clw.same _ (HD.out _)) | (with_reducible exact Clw.same _ (HE.out _))))
    | (go_at_call 25; exact Clw.call hcl _ (HA.out _))))
  refine wpQuiet_nil ?_
  intro _ hw'
  obtain ⟨p, rfl⟩ := hw'
  go_wp2_with (fail)
  go_ret
  exact ⟨retB HV.out.symm, kB p⟩

noncomputable def colV (ps : List Sec) (d : Int) : ByteArray := if validS ps then paintC ps (ang d) else ⟨#[]⟩
theorem scircle_any (v : Value) (ps : List Sec) (w : World) (hv : ValidS ps) (h : SecAre w v ps) :
    Calls Try.prog 49 #[v] w fun e w' => ∃ g, e = .returned (.slice (some ⟨g, 0, none⟩) 360 360) ∧ OwnC w' w.heap.size g 360 360 (circL ps) ∧ Below w.heap.size w w' := by
  obtain ⟨a, c, rfl, h⟩ := h
  by_cases h0 : ps.length = 0
  · obtain rfl := List.length_eq_zero_iff.1 h0
    obtain ⟨i0, hi, hz0, hz1, hz2⟩ := strinfo_parts infoStrC
    clear h h0 hv
    go_enter Try.func49, Try.ntmps49
    go_wp2_with (at_make; refine wpList_make_full _ rfl _ _ 55 rfl w.heap.size 9 i0 (.string ⟨#[]⟩) 1 Try.underlying55 hi hz0 hz1 _ _ _ _ 360 rfl rfl rfl rfl (by rw [hz2]; omega) (by unfold maxLen; omega) (Nat.le_refl _) ?_)
    intro w1 hown hg
    have hb : Below w.heap.size w w1 := (Below.refl _ _).grown hg (Nat.le_refl _) (fun k hk => by cases hk)
    have HO := Lib.hid (show OwnC w1 w.heap.size w.heap.size 360 360 (circL []) by
      have e : (madeCells #[Value.string ⟨#[]⟩] 360).toList = cirV (circL []) := made_str 360
      rw [e] at hown; exact hown)
    have HB := Lib.hid hb
    clear hown hg hb hi hz0 hz1 hz2
    go_wp2_with (fail)
    go_rounds 1
    go_ret
    exact ⟨_, rfl, HO.out, HB.out⟩
  · obtain ⟨b, off, rfl, hc⟩ := h.2.resolve_left (by intro e; rw [e] at h0; exact h0 rfl)
    exact scircle_row b off c ps w hv hc
theorem scolorat_any (v : Value) (ps : List Sec) (d : Int) (w : World) (hm : ps.length ≤ 1048576) (h : SecAre w v ps) :
    Calls Try.prog 26 #[v, .int .i64 d] w fun e w' => e = .returned (.string (colV ps d)) ∧ Below w.heap.size w w' := by
  have HS := Lib.hid (sokay_any v ps w hm h)
  cases hv : validS ps
  · rw [hv] at HS
    have H1 := Lib.hid (show colV ps d = ⟨#[]⟩ by unfold colV; rw [hv]; rfl)
    clear h
    go_enter Try.func26, Try.ntmps26
    go_wp2_with (go_at_call 42; refine HS.out.mono ?_; rintro e w1 ⟨rfl, m, rfl⟩)
    go_ret
    exact ⟨retS H1.out.symm, below_drewN (Below.refl _ _) m⟩
  · rw [hv] at HS
    have hd := ang_bd d
    have HD := Lib.hid (fun w => sangle_any d w)
    have H1 := Lib.hid (show colV ps d = paintC ps (ang d) by unfold colV; rw [hv]; rfl)
    obtain ⟨q, hq⟩ : ∃ q : Nat, (q : Int) = ang d := ⟨(ang d).toNat, by omega⟩
    rw [← hq] at HD H1
    have HC := Lib.hid (fun w' (hb : Below w.heap.size w w') => scircle_any v ps w' (validS_iff.1 hv) (h.below hb))
    have hq1 : q < 360 := by omega
    have HL := Lib.hid (circL_at ps q hq1)
    clear h hv hd hq
    go_enter Try.func26, Try.ntmps26
    go_wp2_with (go_at_call 42; refine HS.out.mono ?_; rintro e w1 ⟨rfl, m, rfl⟩; refine Hid.out ?_)
    refine Lib.hid ?_
    have HB := Lib.hid (below_drewN (Below.refl w.heap.size w) m)
    go_wp2_with (go_at_call 49; refine (HC.out _ HB.out).mono ?_; rintro e w2 ⟨g, rfl, ho, hb⟩; refine Hid.out ?_)
    refine Lib.hid ?_
    have HB := Lib.hid (Below.next HB.out hb)
    have o0 := ho.cell q hq1
    rw [HL.out] at o0
    clear ho hb
    go_wp2_with (go_at_call 50; refine (HD.out _).mono ?_; rintro e w3 ⟨rfl, rfl⟩)
    go_ret
    exact ⟨retS H1.out.symm, HB.out⟩
theorem first_none {x : Int} : ∀ {ps : List Sec}, (∀ i, i < ps.length → hasB (ps.getD i sec0) x = false) → firstC ps x = ⟨#[]⟩
  | [], _ => rfl
  | p :: ps, h => by
    have h0 : hasB p x = false := h 0 (by simp)
    have ih := first_none (ps := ps) (x := x) fun i hi => h (i + 1) (by simpa using hi)
    unfold firstC at ih ⊢
    rw [List.find?_cons, h0]; exact ih
theorem first_hit {x : Int} : ∀ {ps : List Sec} {k : Nat}, k < ps.length → (∀ i, i < k → hasB (ps.getD i sec0) x = false) → hasB (ps.getD k sec0) x = true → firstC ps x = (ps.getD k sec0).2.2
  | [], _, h, _, _ => by simp at h
  | p :: ps, 0, _, _, h => by
    have h0 : hasB p x = true := h
    unfold firstC
    rw [List.find?_cons, h0]; rfl
  | p :: ps, k + 1, hk, hi, h => by
    have h0 : hasB p x = false := hi 0 (by omega)
    have ih := first_hit (ps := ps) (x := x) (k := k) (by simpa using hk) (fun i h2 => hi (i + 1) (by omega)) h
    unfold firstC at ih ⊢
    rw [List.find?_cons, h0]; exact ih
theorem colorat_row (b off c : Nat) (ps : List Sec) (d : Int) (w : World) (hv : ValidS ps) (HOK : Hid (Calls Try.prog 20 #[.slice (some ⟨b, off, none⟩) ps.length c] w fun e w' => e = .returned (.bool true) ∧ Below w.heap.size w w')) (hc : ∀ i, i < ps.length → SecAt w b (off + i * 3) (ps.getD i sec0)) :
    Calls Try.prog 27 #[.slice (some ⟨b, off, none⟩) ps.length c, .int .i64 d] w fun e w' => e = .returned (.string (paintC ps (ang d))) ∧ Below w.heap.size w w' := by
  have HC := Lib.hid hc
  have HV := Lib.hid hv
  have hl := hv.1
  have hd := ang_bd d
  have HF := Lib.hid (first_is hv (b := ang d) (by omega) (by omega))
  clear hc hv
  go_enter Try.func27, Try.ntmps27
  go_wp2_with (go_at_call 20; refine HOK.out.mono ?_; rintro e w1 ⟨rfl, hb⟩; refine Hid.out ?_)
  refine Lib.hid ?_
  have HB0 := Lib.hid hb
  clear HOK hb
  go_wp2_with (fail)
  go_loopw [12] (fun i wr => ∃ k : Nat, k ≤ ps.length ∧ i = .int .i64 k ∧ (∀ i, i < k → hasB (ps.getD i sec0) (ang d) = false) ∧ Below w.heap.size w wr) (fun i _ => ps.length - (intOf i).toNat)
  case atStart => exact ⟨0, Nat.zero_le _, rfl, fun i hi => by omega, HB0.out⟩
  case round =>
    obtain ⟨k, hk, rfl, hj, hbel⟩ := hrel
    have HJ := Lib.hid hj
    clear hj
    by_cases hlt : k < ps.length
    · have hkn : (k : Int) < (ps.length : Int) := by omega
      obtain ⟨c0, c1, c2⟩ := (HC.out k hlt).below hbel
      have hok := okSec_ends (HV.out.2.1 k hlt).1
      have HH := Lib.hid (fun w => has_any (ps.getD k sec0).1 (ps.getD k sec0).2.1 (ps.getD k sec0).2.2 d w hok.1)
      rw [show ((ps.getD k sec0).1, (ps.getD k sec0).2.1, (ps.getD k sec0).2.2) = ps.getD k sec0 from rfl] at HH
      cases hh : hasB (ps.getD k sec0) (ang d)
      · have HS := Lib.hid (show ∀ i, i < k + 1 → hasB (ps.getD i sec0) (ang d) = false from fun i hi => by
          by_cases e : i < k
          · exact HJ.out i e
          · obtain rfl : i = k := by omega
            exact hh)
        rw [hh] at HH
        generalize (ps.getD k sec0).1 = f at *
        generalize (ps.getD k sec0).2.1 = t at *
        generalize (ps.getD k sec0).2.2 = s at *
        have HB1 := Lib.hid (show Below w.heap.size w (wr.alloc (.cells #[.int .i64 f, .int .i64 t, .string s] 26)) from hbel.alloc hbel.size _)
        clear hbel hh hok
        go_wp2_with (go_at_call 51; refine (HH.out _).mono ?_; rintro e w2 ⟨rfl, hb⟩; have AC := Lib.hid (Below.next HB1.out hb); clear hb)
        go_roundw
        case rel => exact ⟨k + 1, by omega, by go_num, HS.out, AC.out⟩
        case measure => simp [intOf]; omega
      · have HR := Lib.hid (show paintC ps (ang d) = (ps.getD k sec0).2.2 by rw [← HF.out]; exact first_hit hlt HJ.out hh)
        rw [hh] at HH
        generalize (ps.getD k sec0).1 = f at *
        generalize (ps.getD k sec0).2.1 = t at *
        generalize (ps.getD k sec0).2.2 = s at *
        have HB1 := Lib.hid (show Below w.heap.size w (wr.alloc (.cells #[.int .i64 f, .int .i64 t, .string s] 26)) from hbel.alloc hbel.size _)
        clear hbel hh hok
        go_wp2_with (go_at_call 51; refine (HH.out _).mono ?_; rintro e w2 ⟨rfl, hb⟩; refine Hid.out ?_)
        refine Lib.hid ?_
        have AC := Lib.hid (Below.next HB1.out hb)
        have s2 : w2.cell? ⟨wr.heap.size, 2, none⟩ = some (.string s) := cell_below (by simp) hb
        clear hb c0 c1 c2
        go_wp2_with (fail)
        go_ret
        exact ⟨retS HR.out.symm, AC.out⟩
    · obtain rfl : k = ps.length := by omega
      have HR := Lib.hid (show paintC ps (ang d) = ⟨#[]⟩ by rw [← HF.out]; exact first_none HJ.out)
      have HB := Lib.hid hbel
      clear hbel
      go_wp2
      go_ret
      exact ⟨retS HR.out.symm, HB.out⟩
theorem colorat_any (v : Value) (ps : List Sec) (d : Int) (w : World) (h : SecAre w v ps) :
    Calls Try.prog 27 #[v, .int .i64 d] w fun e w' => e = .returned (.string (colV ps d)) ∧ Below w.heap.size w w' := by
  have HS := okay_any v ps w h
  cases hv : validS ps
  · rw [hv] at HS
    have HK := Lib.hid HS
    have H1 := Lib.hid (show colV ps d = ⟨#[]⟩ by unfold colV; rw [hv]; rfl)
    obtain ⟨a, c, rfl, h⟩ := h
    clear h HS
    go_enter Try.func27, Try.ntmps27
    go_wp2_with (go_at_call 20; refine HK.out.mono ?_; rintro e w1 ⟨rfl, hb⟩)
    go_ret
    exact ⟨retS H1.out.symm, hb⟩
  · have H1 := show colV ps d = paintC ps (ang d) by unfold colV; rw [hv]; rfl
    rw [hv] at HS
    rw [H1]
    obtain ⟨a, c, rfl, h⟩ := h
    by_cases h0 : ps.length = 0
    · obtain rfl := List.length_eq_zero_iff.1 h0
      have HK := Lib.hid HS
      clear h HS h0 H1 hv
      go_enter Try.func27, Try.ntmps27
      go_wp2_with (go_at_call 20; refine HK.out.mono ?_; rintro e w1 ⟨rfl, hb⟩; refine Hid.out ?_)
      refine Lib.hid ?_
      go_wp2_with (fail)
      go_rounds 1
      go_ret
      exact ⟨rfl, hb⟩
    · obtain ⟨b, off, rfl, hc⟩ := h.2.resolve_left (by intro e; rw [e] at h0; exact h0 rfl)
      exact colorat_row b off c ps d w (validS_iff.1 hv) (Lib.hid HS) hc
end Go.Proofs.Ytclbpjjnhfllkaa
