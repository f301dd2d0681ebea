/- Reading phases: the model's. -/
import Derived.Test.YtgcaipjknpcepaaDoorRdhI
namespace Go.Proofs.YtgcaipjknpcepaaDoor
open Go.ChangeShapes Go.WideShapes Go.ChangeAt Go.RowKit Pm

theorem wpList_app_phn {ops : Array Oper} {rest : List Oper} {o : Oper} {a : Act} {Q : Exit → Act → World → Prop} (hgd : o.guard = none) (s x : Operand)
    (B : Nat) (v : Value) (ps : List Ph) (p : Ph) (w0 wr : World) (T : TypeId) (hown : OwnPh wr B v ps) (hb : Below B w0 wr) (hB : B ≤ w0.heap.size) (hl : ps.length ≤ 1048577)
    (ho : o.op = .call { callee := .builtin .append, args := #[s, x], argTypes := #[27, 27] })
    (hs : a.eval s = v) (n : Nat) (hn : wr.heap.size = n) (hx : a.eval x = .slice (some ⟨n, 0, none⟩) 1 1)
    (h : ∀ v' w', OwnPh w' B v' (ps ++ [p]) → Below B w0 w' → wpList Tryd.prog ops Q rest (a.put o.dst v') w') :
    wpList Tryd.prog ops Q (o :: rest) a (wr.alloc (.cells #[.string p.1, .int .i64 p.2] T)) := by
  subst hn
  exact wpList_app_ph hgd s x B v ps p w0 wr T hown hb hB hl ho hs hx h
theorem OwnPh.lit (w : World) : OwnPh (w.alloc (.cells #[] 42)) w.heap.size (.slice (some ⟨w.heap.size, 0, Option.none⟩) 0 0) [] := World.ownsRow_lit w #[] 0 (Nat.le_refl _) (by unfold maxLen; omega) rfl
set_option maxRecDepth 100000 in
set_option maxHeartbeats 2000000 in
theorem sreadph_any (s : ByteArray) (w : World) (hs : s.size ≤ 1048576) :
    Calls Tryd.prog 37 #[.string s] w (RdhRet s w) := by
  have HSP := Lib.hid (ssplit_any s 44 w hs)
  have HPT := Lib.hid (cutS_part 44 s)
  have hcl := cutS_le 44 s
  have HMANY := Lib.hid (fun h => rdh_many (s := s) h)
  have HBAD := Lib.hid (fun k h => rdh_bad (s := s) (k := k) h)
  have HY := Lib.hid (show (cutS 44 s).all noneB = true → rdhB s = validP ((cutS 44 s).map partP) from fun h => by unfold rdhB; rw [h]; rfl)
  have HYL := Lib.hid (fun h => rdh_yes (s := s) h)
  have hpos : 0 < (cutS 44 s).length := by rw [cutS_len]; omega
  obtain ⟨ps, hps⟩ : ∃ ps, ps = cutS 44 s := ⟨_, rfl⟩
  rw [← hps] at HSP HPT HY HYL HBAD HMANY hpos hcl
  have hps1 : ps.length ≤ 1048577 := by omega
  clear hps hcl
  by_cases h40 : ps.length ≤ 40
  · go_enter Tryd.func37, Tryd.ntmps37
    go_wp2_with (go_at_call 72; refine HSP.out.mono ?_; rintro e w1 ⟨v1, rfl, ho1, hb1⟩; refine Hid.out ?_)
    refine Lib.hid ?_
    rw [strV_len] at ho1
    obtain ⟨g, cap, rfl, _, _⟩ := ho1.form hpos
    have HO1 := Lib.hid ho1
    have HB1 := Lib.hid hb1
    have h40i : (ps.length : Int) ≤ 40 := by omega
    clear ho1 hb1
    go_wp2_with (fail)
    go_loopw [5, 6] (fun v i wr => ∃ (k : Nat), k ≤ ps.length ∧ i = .int .i64 k ∧ (ps.take k).all noneB = true ∧ OwnPh wr w1.heap.size v ((ps.take k).map partP) ∧ Below w1.heap.size w1 wr) (fun _ i _ => ps.length - (intOf i).toNat)
    case atStart => exact ⟨0, Nat.zero_le _, rfl, rfl, OwnPh.lit w1, by go_grown⟩
    case round =>
      obtain ⟨k, hk, rfl, hall, hown, hbel⟩ := hrel
      have HA := Lib.hid hall
      have HO := Lib.hid hown
      have HB := Lib.hid hbel
      clear hall hown
      by_cases hlt : k < ps.length
      · have hkn : (k : Int) < (ps.length : Int) := by omega
        have hcell := (own_below HO1.out hbel).cellAt k (by omega)
        rw [show (strV ps)[k]? = some (.string ps[k]) by simp [strV, hlt]] at hcell
        have HBD := Lib.hid (fun h => HBAD.out k hlt h)
        have hsz := HPT.out _ (List.getElem_mem hlt)
        have HMT := Lib.hid (map_take hlt)
        have HAT := Lib.hid (none_take hlt)
        have hl1 : ((ps.take k).map partP).length ≤ 1048577 := by rw [List.length_map, List.length_take]; omega
        obtain ⟨p, hp⟩ : ∃ p, p = ps[k] := ⟨_, rfl⟩
        rw [← hp] at hcell HBD hsz HMT HAT
        obtain ⟨qs, hqs⟩ : ∃ qs, qs = (ps.take k).map partP := ⟨_, rfl⟩
        rw [← hqs] at HO HMT hl1
        clear hp hbel hqs
        by_cases h2 : 2 ≤ p.size
        · have h2i : ¬ (p.size : Int) < 2 := by omega
          have h1i : (1 : Int) ≤ (p.size : Int) := by omega
          have HN2 := Lib.hid (show noneB p = true by
            unfold noneB
            have := size_toList p
            cases e : p.toList with
            | nil => rw [e] at this; simp at this; omega
            | cons a r => rfl)
          have HD := Lib.hid (fun w => snum_any (p.extract 1 p.size) w (by rw [ByteArray.size_extract]; unfold maxLen; omega))
          have HCL := Lib.hid (fun w => scol_any (p.extract 0 1) w)
          have HPP := Lib.hid (show partP p = (unC (p.extract 0 1), numR (p.extract 1 p.size).data.toList) from rfl)
          have HNUM := Lib.hid (fun h => part_num (p := p) h)
          have HCOL := Lib.hid (fun h2 h3 => part_col (p := p) (ext_ne (by omega)) h2 h3)
          have HUD := Lib.hid (show ∀ b, ((p.extract 0 1).toList == [45]) = b → unC (p.extract 0 1) = if b then ⟨#[]⟩ else p.extract 0 1 from fun b h => by unfold unC; rw [h])
          generalize numR (p.extract 1 p.size).data.toList = z at *
          generalize canB (p.extract 1 p.size).data.toList = bb at *
          generalize hc0 : p.extract 0 1 = c0 at *
          cases hd : (c0.toList == [45])
          · have HU := Lib.hid (show unC c0 = c0 from HUD.out false hd)
            cases hco : colB c0
            · have HN := Lib.hid (HBD.out (HCOL.out hd hco))
              rw [hco] at HCL
              go_wp2_with (first
                | (go_at_call 73; refine (HD.out _).mono ?_; rintro e w2 ⟨rfl, rfl⟩)
                | (go_at_call 51; refine (HCL.out _).mono ?_; rintro e w3 ⟨rfl, rfl⟩))
              go_ret2
              exact rdhret_no HN.out (HB1.out.trans ((HB.out.alloc HB.out.size _).mono HB1.out.size))
            · rw [hco] at HCL
              cases bb
              · have HN := Lib.hid (HBD.out (HNUM.out rfl))
                go_wp2_with (first
                  | (go_at_call 73; refine (HD.out _).mono ?_; rintro e w2 ⟨rfl, rfl⟩)
                  | (go_at_call 51; refine (HCL.out _).mono ?_; rintro e w3 ⟨rfl, rfl⟩))
                go_ret2
                exact rdhret_no HN.out (HB1.out.trans ((HB.out.alloc HB.out.size _).mono HB1.out.size))
              · go_wp2_with (first
                  | (go_at_call 73; refine (HD.out _).mono ?_; rintro e w2 ⟨rfl, rfl⟩)
                  | (go_at_call 51; refine (HCL.out _).mono ?_; rintro e w3 ⟨rfl, rfl⟩)
                  | (at_builtin; (refine wpList_app_phn rfl _ _ w1.heap.size _ qs (c0, z) w1 (wr.alloc (.cells #[.string c0, .int .i64 z] 42)) _ (HO.out.below (by go_grown)) (HB.out.alloc HB.out.size _) (Nat.le_refl _) hl1 rfl rfl _ (by simp) rfl ?_)))
                intro v' w4 h4 hb4
                have HO4 := Lib.hid h4
                have HB4 := Lib.hid hb4
                clear h4 hb4
                go_wp2
                go_roundw
                case rel => exact ⟨k + 1, by omega, by go_num, by rw [HAT.out, HA.out, HN2.out]; rfl, by rw [HMT.out, HPP.out, HU.out]; exact HO4.out, HB4.out⟩
                case measure => simp [intOf]; omega
          · have HU := Lib.hid (show unC c0 = ⟨#[]⟩ from HUD.out true hd)
            cases bb
            · have HN := Lib.hid (HBD.out (HNUM.out rfl))
              go_wp2_with (first
                | (go_at_call 73; refine (HD.out _).mono ?_; rintro e w2 ⟨rfl, rfl⟩)
                | (go_at_call 51; refine (HCL.out _).mono ?_; rintro e w3 ⟨rfl, rfl⟩))
              go_ret2
              exact rdhret_no HN.out (HB1.out.trans ((HB.out.alloc HB.out.size _).mono HB1.out.size))
            · go_wp2_with (first
                | (go_at_call 73; refine (HD.out _).mono ?_; rintro e w2 ⟨rfl, rfl⟩)
                | (go_at_call 51; refine (HCL.out _).mono ?_; rintro e w3 ⟨rfl, rfl⟩)
                | (at_builtin; (refine wpList_app_phn rfl _ _ w1.heap.size _ qs (⟨#[]⟩, z) w1 (wr.alloc (.cells #[.string ⟨#[]⟩, .int .i64 z] 42)) _ (HO.out.below (by go_grown)) (HB.out.alloc HB.out.size _) (Nat.le_refl _) hl1 rfl rfl _ (by simp) rfl ?_)))
              intro v' w4 h4 hb4
              have HO4 := Lib.hid h4
              have HB4 := Lib.hid hb4
              clear h4 hb4
              go_wp2
              go_roundw
              case rel => exact ⟨k + 1, by omega, by go_num, by rw [HAT.out, HA.out, HN2.out]; rfl, by rw [HMT.out, HPP.out, HU.out]; exact HO4.out, HB4.out⟩
              case measure => simp [intOf]; omega
        · have HN := Lib.hid (HBD.out (part_short (by omega)))
          have h2i : (p.size : Int) < 2 := by omega
          go_wp2
          go_ret2
          exact rdhret_no HN.out (HB1.out.trans (HB.out.mono HB1.out.size))
      · obtain rfl : k = ps.length := by omega
        have ha := HA.out
        rw [List.take_of_length_le (Nat.le_refl _)] at ha HO
        have HR := Lib.hid (HY.out ha)
        obtain ⟨qs, hqs⟩ : ∃ qs, qs = ps.map partP := ⟨_, rfl⟩
        have hql : qs.length ≤ 1048576 := by rw [hqs, List.length_map]; omega
        rw [← hqs] at HO HR
        have HYL2 := Lib.hid (fun h => (HYL.out h).trans hqs.symm)
        clear ha hqs hbel
        have HVV := Lib.hid (fun w v h => sval_any v qs w hql h)
        cases hv : validP qs
        · rw [hv] at HVV HR
          go_wp2_with (go_at_call 67; refine (HVV.out _ _ HO.out.are).mono ?_; rintro e w2 ⟨rfl, rfl⟩)
          go_ret2
          exact rdhret_no HR.out (HB1.out.trans (HB.out.mono HB1.out.size))
        · rw [hv] at HVV HR
          go_wp2_with (go_at_call 67; refine (HVV.out _ _ HO.out.are).mono ?_; rintro e w2 ⟨rfl, rfl⟩)
          go_ret2
          exact ⟨u5, by rw [HR.out]; rfl, by rw [HYL2.out HR.out]; exact HO.out.mono HB1.out.size, HB1.out.trans (HB.out.mono HB1.out.size)⟩
  · have HN := Lib.hid (HMANY.out (by omega))
    have h40i : (40 : Int) < (ps.length : Int) := by omega
    go_enter Tryd.func37, Tryd.ntmps37
    go_wp2_with (go_at_call 72; refine HSP.out.mono ?_; rintro e w1 ⟨v1, rfl, ho1, hb1⟩; refine Hid.out ?_)
    refine Lib.hid ?_
    rw [strV_len] at ho1
    obtain ⟨g, cap, rfl, _, _⟩ := ho1.form hpos
    have HB1 := Lib.hid hb1
    clear ho1 hb1
    go_wp2
    go_ret2
    exact rdhret_no HN.out HB1.out
end Go.Proofs.YtgcaipjknpcepaaDoor
