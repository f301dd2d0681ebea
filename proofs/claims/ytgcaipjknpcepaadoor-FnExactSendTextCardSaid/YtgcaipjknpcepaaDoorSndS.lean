/- The phases of a text: the model's function. -/
import Derived.Test.YtgcaipjknpcepaaDoorSndM
import Derived.Test.YtgcaipjknpcepaaDoorPhsC
namespace Go.Proofs.YtgcaipjknpcepaaDoor
open Go.ChangeShapes Go.WideShapes Go.ChangeAt Go.RowKit Pm

theorem wpList_app_phj {ops : Array Oper} {rest : List Oper} {o : Oper} {a : Act} {Q : Exit → Act → World → Prop} (hgd : o.guard = none) (s x : Operand)
    (B : Nat) (v : Value) (ps : List Ph) (p : Ph) (w0 wr : World) (T : TypeId) (hown : OwnPh wr B v ps) (hb : Below B w0 wr) (hB : B ≤ w0.heap.size) (hl : ps.length ≤ 1048577)
    (ho : o.op = .call { callee := .builtin .append, args := #[s, x], argTypes := #[27, 27] })
    (hs : a.eval s = v) (n : Nat) (hn : wr.heap.size = n) (hx : a.eval x = .slice (some ⟨n, 0, none⟩) 1 1)
    (h : ∀ v' w', OwnPh w' B v' (ps ++ [p]) → Below B w0 w' → wpList Tryd.prog ops Q rest (a.put o.dst v') w') :
    wpList Tryd.prog ops Q (o :: rest) a (wr.alloc (.cells #[.string p.1, .int .i64 p.2] T)) := by
  subst hn
  exact wpList_app_ph hgd s x B v ps p w0 wr T hown hb hB hl ho hs hx h
theorem OwnPh.litj (w : World) : OwnPh (w.alloc (.cells #[] 42)) w.heap.size (.slice (some ⟨w.heap.size, 0, Option.none⟩) 0 0) [] := World.ownsRow_lit w #[] 0 (Nat.le_refl _) (by unfold maxLen; omega) rfl
set_option maxRecDepth 100000 in
set_option maxHeartbeats 4000000 in
theorem ssend_any (s c : ByteArray) (u : Int) (w : World) (hS : Sent s) (hu1 : 1 ≤ u) (hu2 : u ≤ 50) :
    Calls Tryd.prog 53 #[.string s, .string c, .int .i64 u] w (CopyPh (sndP c u 0 s.data.toList) w) := by
  have hs12 := hS.most
  have HS := Lib.hid hS
  have hall : (sndP c u 0 s.data.toList).length ≤ 96 := by
    have h1 := sndP_len c u s.data.toList 0 (fun x hx => by
      obtain ⟨j, hj, rfl⟩ := List.getElem_of_mem hx
      rw [byte_at s j (by simpa using hj)]
      exact hS.byte j (by simpa using hj))
    rw [sz_toList] at h1
    omega
  obtain ⟨R, hR⟩ : ∃ R, R = sndP c u 0 s.data.toList := ⟨_, rfl⟩
  rw [← hR] at hall ⊢
  have HR := Lib.hid hR
  clear hS hR
  go_enter Tryd.func53, Tryd.ntmps53
  go_wp2_with (fail)
  go_loopw [7, 8, 9] (fun o gp i wr => ∃ (k g : Nat) (L : List Ph), k ≤ s.size ∧ g ≤ 7 ∧ gp = .int .i64 g ∧ i = .int .i64 k ∧ L ++ sndP c u g (s.data.toList.drop k) = R ∧ OwnPh wr w.heap.size o L ∧ Below w.heap.size w wr) (fun _ _ i _ => s.size - (intOf i).toNat)
  case atStart => exact ⟨0, 0, [], Nat.zero_le _, by omega, rfl, rfl, HR.out.symm, OwnPh.litj w, by go_grown⟩
  case round =>
    obtain ⟨k, g, L, hk, hg, rfl, rfl, heq, hown, hbel⟩ := hrel
    have HO := Lib.hid hown
    have HB := Lib.hid hbel
    clear hown hbel
    by_cases hlt : k < s.size
    · have hkn : (k : Int) < (s.size : Int) := by omega
      rw [sndP_drop c u g s k hlt] at heq
      have hbyte := HS.out.byte k hlt
      by_cases hx : s[k] = 32
      · have hxb : (((s[k]).toNat : Int) == 32) = true := by rw [hx]; rfl
        rw [if_pos hx] at heq
        have HE := Lib.hid heq
        clear hx heq hbyte
        go_wp2_with (fail)
        refine ⟨⟨k + 1, 7, L, by omega, Nat.le_refl _, rfl, rfl, HE.out, HO.out, HB.out⟩, ?_⟩
        show s.size - ((k : Int) + 1).toNat < s.size - ((k : Int)).toNat
        omega
      · have hxb : (((s[k]).toNat : Int) == 32) = false := by
          rw [beq_eq_false_iff_ne]
          exact fun q => hx (UInt8.toNat_inj.1 (by have e : (32 : UInt8).toNat = 32 := rfl
                                                   omega))
        obtain ⟨r, hr, hbr⟩ := cap_num (hbyte.resolve_left hx)
        rw [if_neg hx, hbr, Nat.add_sub_cancel_left] at heq
        have hml := (morse_facts r hr).2.1
        have hmz := morseS_size r
        have HCD := Lib.hid (fun w => scode_any r hr w)
        rw [show (65 : Int) + (r : Int) = ((s[k]).toNat : Int) by rw [hbr]; omega] at HCD
        rw [show morseB r = (morseS r).data.toList from rfl] at heq
        obtain ⟨m, hm⟩ : ∃ m, m = morseS r := ⟨_, rfl⟩
        rw [← hm] at hmz HCD heq
        have hmz4 : m.size ≤ 4 := by omega
        have HE := Lib.hid heq
        clear hx heq hbyte hm hml hmz hbr
        go_wp2_with (go_at_call 40; refine (HCD.out _).mono ?_; rintro e w3 ⟨rfl, hb⟩; refine Hid.out ?_)
        refine Lib.hid ?_
        have HB3 := Lib.hid (Below.next HB.out hb)
        have HO3 := Lib.hid (HO.out.below hb)
        clear hb
        go_wp2_with (fail)
        go_loopw [7, 8, 11] (fun o gp i wr => ∃ (j g2 : Nat) (L2 : List Ph), j ≤ m.size ∧ g2 ≤ 7 ∧ gp = .int .i64 g2 ∧ i = .int .i64 j ∧ L2 ++ (sigP c u g2 (m.data.toList.drop j) ++ sndP c u 3 (s.data.toList.drop (k + 1))) = R ∧ OwnPh wr w.heap.size o L2 ∧ Below w.heap.size w wr) (fun _ _ i _ => m.size - (intOf i).toNat)
        case atStart => exact ⟨0, g, L, Nat.zero_le _, hg, rfl, rfl, HE.out, HO3.out, HB3.out⟩
        case round =>
          obtain ⟨j, g2, L2, hj, hg2, rfl, rfl, heq, hown, hbel⟩ := hrel
          have HO4 := Lib.hid hown
          have HB4 := Lib.hid hbel
          have hL2 : L2.length ≤ 96 := by
            have := congrArg List.length heq
            rw [List.length_append] at this
            omega
          clear hown hbel
          by_cases hjl : j < m.size
          · have hjn : (j : Int) < (m.size : Int) := by omega
            rw [sigP_drop c u g2 m j hjl] at heq
            have hwr := pau_mul hg2 hu1 hu2
            have HE2 := Lib.hid heq
            clear heq
            by_cases hg0 : 0 < g2
            · have hgi : (0 : Int) < (g2 : Int) := by omega
              have hpa := pauP_yes hg0 u
              go_wp2_with (at_builtin; (refine wpList_app_phj rfl _ _ w.heap.size _ L2 (⟨#[]⟩, (g2 : Int) * u) w _ _ HO4.out HB4.out (Nat.le_refl _) (by omega) rfl rfl _ rfl rfl ?_))
              intro v5 w5 h5 hb5
              have HO5 := Lib.hid h5
              have HB5 := Lib.hid hb5
              have HPA := Lib.hid hpa
              clear h5 hb5 hwr hpa
              by_cases hbd : m[j] = 45
              · have hbi : (((m[j]).toNat : Int) == 45) = true := by rw [hbd]; rfl
                have HSG := Lib.hid (show ((sgnU m[j] : Nat) : Int) * u = 3 * u by rw [hbd]; rfl)
                clear hbd
                go_wp2_with (at_builtin; (refine wpList_app_phj rfl _ _ w.heap.size _ (L2 ++ [(⟨#[]⟩, (g2 : Int) * u)]) (c, 3 * u) w _ _ HO5.out HB5.out (Nat.le_refl _) (by first | omega | (simp only [List.length_append, List.length_cons, List.length_nil]; omega)) rfl rfl _ rfl rfl ?_))
                intro v6 w6 h6 hb6
                have HO6 := Lib.hid h6
                have HB6 := Lib.hid hb6
                clear h6 hb6
                go_wp2
                refine ⟨⟨j + 1, 1, _, by omega, by omega, rfl, rfl, by rw [← HE2.out, HSG.out, HPA.out]; simp only [List.append_assoc, List.cons_append, List.nil_append], HO6.out, HB6.out⟩, ?_⟩
                show m.size - ((j : Int) + 1).toNat < m.size - ((j : Int)).toNat
                omega
              · have hbi : (((m[j]).toNat : Int) == 45) = false := by
                  rw [beq_eq_false_iff_ne]
                  exact fun q => hbd (UInt8.toNat_inj.1 (by have e : (45 : UInt8).toNat = 45 := rfl
                                                            omega))
                have HSG := Lib.hid (show ((sgnU m[j] : Nat) : Int) * u = u by unfold sgnU; rw [if_neg hbd]; exact Int.one_mul u)
                clear hbd
                go_wp2_with (at_builtin; (refine wpList_app_phj rfl _ _ w.heap.size _ (L2 ++ [(⟨#[]⟩, (g2 : Int) * u)]) (c, u) w _ _ HO5.out HB5.out (Nat.le_refl _) (by first | omega | (simp only [List.length_append, List.length_cons, List.length_nil]; omega)) rfl rfl _ rfl rfl ?_))
                intro v6 w6 h6 hb6
                have HO6 := Lib.hid h6
                have HB6 := Lib.hid hb6
                clear h6 hb6
                go_wp2
                refine ⟨⟨j + 1, 1, _, by omega, by omega, rfl, rfl, by rw [← HE2.out, HSG.out, HPA.out]; simp only [List.append_assoc, List.cons_append, List.nil_append], HO6.out, HB6.out⟩, ?_⟩
                show m.size - ((j : Int) + 1).toNat < m.size - ((j : Int)).toNat
                omega
            · have hgi : ¬ (0 : Int) < (g2 : Int) := by omega
              have HPA := Lib.hid (show pauP g2 u = [] by unfold pauP; rw [if_neg hg0])
              clear hwr
              by_cases hbd : m[j] = 45
              · have hbi : (((m[j]).toNat : Int) == 45) = true := by rw [hbd]; rfl
                have HSG := Lib.hid (show ((sgnU m[j] : Nat) : Int) * u = 3 * u by rw [hbd]; rfl)
                clear hbd
                go_wp2_with (at_builtin; (refine wpList_app_phj rfl _ _ w.heap.size _ L2 (c, 3 * u) w _ _ HO4.out HB4.out (Nat.le_refl _) (by first | omega | (simp only [List.length_append, List.length_cons, List.length_nil]; omega)) rfl rfl _ rfl rfl ?_))
                intro v6 w6 h6 hb6
                have HO6 := Lib.hid h6
                have HB6 := Lib.hid hb6
                clear h6 hb6
                go_wp2
                refine ⟨⟨j + 1, 1, _, by omega, by omega, rfl, rfl, by rw [← HE2.out, HSG.out, HPA.out]; simp only [List.append_assoc, List.cons_append, List.nil_append], HO6.out, HB6.out⟩, ?_⟩
                show m.size - ((j : Int) + 1).toNat < m.size - ((j : Int)).toNat
                omega
              · have hbi : (((m[j]).toNat : Int) == 45) = false := by
                  rw [beq_eq_false_iff_ne]
                  exact fun q => hbd (UInt8.toNat_inj.1 (by have e : (45 : UInt8).toNat = 45 := rfl
                                                            omega))
                have HSG := Lib.hid (show ((sgnU m[j] : Nat) : Int) * u = u by unfold sgnU; rw [if_neg hbd]; exact Int.one_mul u)
                clear hbd
                go_wp2_with (at_builtin; (refine wpList_app_phj rfl _ _ w.heap.size _ L2 (c, u) w _ _ HO4.out HB4.out (Nat.le_refl _) (by first | omega | (simp only [List.length_append, List.length_cons, List.length_nil]; omega)) rfl rfl _ rfl rfl ?_))
                intro v6 w6 h6 hb6
                have HO6 := Lib.hid h6
                have HB6 := Lib.hid hb6
                clear h6 hb6
                go_wp2
                refine ⟨⟨j + 1, 1, _, by omega, by omega, rfl, rfl, by rw [← HE2.out, HSG.out, HPA.out]; simp only [List.append_assoc, List.cons_append, List.nil_append], HO6.out, HB6.out⟩, ?_⟩
                show m.size - ((j : Int) + 1).toNat < m.size - ((j : Int)).toNat
                omega
          · have hjn : ¬ (j : Int) < (m.size : Int) := by omega
            rw [sigP_end c u g2 m j (by omega), List.nil_append] at heq
            have HE2 := Lib.hid heq
            clear heq
            go_wp2_with (fail)
            refine ⟨⟨k + 1, 3, L2, by omega, by omega, rfl, rfl, HE2.out, HO4.out, HB4.out⟩, ?_⟩
            show s.size - ((k : Int) + 1).toNat < s.size - ((k : Int)).toNat
            omega
    · have hkn : ¬ (k : Int) < (s.size : Int) := by omega
      rw [List.drop_of_length_le (by simp; omega), show sndP c u g [] = [] from rfl, List.append_nil] at heq
      go_wp2
      go_ret
      exact ⟨_, rfl, by rw [← heq]; exact HO.out, HB.out⟩
end Go.Proofs.YtgcaipjknpcepaaDoor
