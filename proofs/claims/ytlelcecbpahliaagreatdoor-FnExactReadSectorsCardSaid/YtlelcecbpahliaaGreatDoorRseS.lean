/- Reading sectors: the model's. -/
import Derived.Test.YtlelcecbpahliaaGreatDoorRseI
import Derived.Test.YtlelcecbpahliaaGreatDoorSecS
namespace Go.Proofs.YtlelcecbpahliaaGreatDoor
open Go.ChangeShapes Go.WideShapes Go.ChangeAt Go.RowKit Pm

theorem wpList_app_secn {ops : Array Oper} {rest : List Oper} {o : Oper} {a : Act} {Q : Exit → Act → World → Prop} (hgd : o.guard = none) (s x : Operand)
    (B : Nat) (v : Value) (ps : List Sec) (p : Sec) (w0 wr : World) (T : TypeId) (hown : OwnSec wr B v ps) (hb : Below B w0 wr) (hB : B ≤ w0.heap.size) (hl : ps.length ≤ 1048577)
    (ho : o.op = .call { callee := .builtin .append, args := #[s, x], argTypes := #[22, 22] })
    (hs : a.eval s = v) (n : Nat) (hn : wr.heap.size = n) (hx : a.eval x = .slice (some ⟨n, 0, none⟩) 1 1)
    (h : ∀ v' w', OwnSec w' B v' (ps ++ [p]) → Below B w0 w' → wpList Tryz.prog ops Q rest (a.put o.dst v') w') :
    wpList Tryz.prog ops Q (o :: rest) a (wr.alloc (.cells #[.int .i64 p.1, .int .i64 p.2.1, .string p.2.2] T)) := by
  subst hn
  exact wpList_app_sec hgd s x B v ps p w0 wr T hown hb hB hl ho hs hx h
theorem OwnSec.lit (w : World) : OwnSec (w.alloc (.cells #[] 52)) w.heap.size (.slice (some ⟨w.heap.size, 0, Option.none⟩) 0 0) [] := World.ownsRow_lit w #[] 0 (Nat.le_refl _) (by unfold maxLen; omega) rfl
theorem mapS_take {ps : List ByteArray} {k : Nat} (h : k < ps.length) : (ps.take (k + 1)).map partS = (ps.take k).map partS ++ [partS ps[k]] := by
  rw [List.take_succ_eq_append_getElem h, List.map_append]; rfl
theorem okS_take {ps : List ByteArray} {k : Nat} (h : k < ps.length) : (ps.take (k + 1)).all okPartS = ((ps.take k).all okPartS && okPartS ps[k]) := by
  rw [List.take_succ_eq_append_getElem h, List.all_append]; simp
theorem okS_bad {ps : List ByteArray} {k : Nat} (h : k < ps.length) (he : okPartS ps[k] = false) : ps.all okPartS = false := by
  rw [← Bool.not_eq_true, List.all_eq_true]
  intro hall
  rw [hall _ (List.getElem_mem h)] at he; cases he
theorem okS_parts {p : ByteArray} {a b : ByteArray} (h : cutS 45 p = [a, b]) : okPartS p = (decide (2 ≤ b.size) && canB a.data.toList && canB (b.extract 0 (b.size - 1)).data.toList) ∧ partS p = (numR a.data.toList, numR (b.extract 0 (b.size - 1)).data.toList, b.extract (b.size - 1) b.size) := by
  have h0 : pa p 0 = a := by unfold pa; rw [h]; rfl
  have h1 : pa p 1 = b := by unfold pa; rw [h]; rfl
  unfold okPartS partS paN paC
  rw [h0, h1, h]
  exact ⟨by simp, rfl⟩
theorem okS_len {p : ByteArray} (h : (cutS 45 p).length ≠ 2) : okPartS p = false := by
  unfold okPartS
  rw [decide_eq_false h]; rfl
set_option maxRecDepth 100000 in
set_option maxHeartbeats 2000000 in
theorem sread_any (s : ByteArray) (w : World) (hs : s.size ≤ 1048576) :
    Calls Tryz.prog 25 #[.string s] w (RdsRet (rdsS s) w) := by
  by_cases h0 : s.toList = [45]
  · have HV := Lib.hid (show rdsS s = some [] by unfold rdsS; rw [if_pos h0])
    have hq : (s.toList == [45]) = true := by simp [h0]
    clear h0
    go_enter Tryz.func25, Tryz.ntmps25
    go_wp2
    go_ret2
    exact ⟨_, by rw [HV.out]; rfl, by rw [HV.out]; exact OwnSec.lit w, by go_grown⟩
  have hq : (s.toList == [45]) = false := by rw [beq_eq_false_iff_ne]; exact h0
  have HSP := Lib.hid (ssplit_any s 44 w hs)
  have HPT := Lib.hid (cutS_part 44 s)
  have HF := Lib.hid (show rdsS s = if (cutS 44 s).length ≤ 12 ∧ (cutS 44 s).all okPartS = true ∧ validS ((cutS 44 s).map partS) = true then some ((cutS 44 s).map partS) else none by unfold rdsS; rw [if_neg h0])
  have hpos : 0 < (cutS 44 s).length := List.length_pos_iff.2 (cut_pos 44 s)
  have hcl := cutS_le 44 s
  obtain ⟨ps, hps⟩ : ∃ ps, ps = cutS 44 s := ⟨_, rfl⟩
  rw [← hps] at HSP HPT HF hpos hcl
  have hps1 : ps.length ≤ 1048577 := by omega
  clear hps h0 hcl
  by_cases h12 : ps.length ≤ 12
  · have h12i : ¬ (12 : Int) < (ps.length : Int) := by omega
    go_enter Tryz.func25, Tryz.ntmps25
    go_wp2_with (go_at_call 57; refine HSP.out.mono ?_; rintro e w1 ⟨v1, rfl, ho1, hb1⟩; refine Hid.out ?_)
    refine Lib.hid ?_
    rw [strV_len] at ho1
    obtain ⟨g, cap, rfl, _, _⟩ := ho1.form hpos
    have HO1 := Lib.hid ho1
    have HB1 := Lib.hid hb1
    clear ho1 hb1
    go_wp2_with (fail)
    go_loopw [5, 6] (fun v i wr => ∃ (k : Nat), k ≤ ps.length ∧ i = .int .i64 k ∧ (ps.take k).all okPartS = true ∧ OwnSec wr w1.heap.size v ((ps.take k).map partS) ∧ Below w1.heap.size w1 wr) (fun _ i _ => ps.length - (intOf i).toNat)
    case atStart => exact ⟨0, Nat.zero_le _, rfl, rfl, OwnSec.lit w1, by go_grown⟩
    case round =>
      obtain ⟨k, hk, rfl, hall, hown, hbel⟩ := hrel
      have HA := Lib.hid hall
      have HO := Lib.hid hown
      have HB := Lib.hid hbel
      clear hall hown
      by_cases hlt : k < ps.length
      · have hkn : (k : Int) < (ps.length : Int) := by omega
        have hcell := (own_below HO1.out hbel).cellAt k (by omega)
        rw [show (strV ps)[k]? = some (.string ps[k]) by simp [strV, hlt]] at hcell
        have hsz := HPT.out _ (List.getElem_mem hlt)
        have HMT := Lib.hid (mapS_take hlt)
        have HAT := Lib.hid (okS_take hlt)
        have HBD := Lib.hid (show okPartS ps[k] = false → rdsS s = none from fun h => by rw [HF.out, if_neg (fun hx => by have := okS_bad hlt h; rw [hx.2.1] at this; cases this)])
        have hl1 : ((ps.take k).map partS).length ≤ 1048577 := by rw [List.length_map, List.length_take]; omega
        obtain ⟨p, hp⟩ : ∃ p, p = ps[k] := ⟨_, rfl⟩
        rw [← hp] at hcell hsz HMT HAT HBD
        obtain ⟨qs, hqs⟩ : ∃ qs, qs = (ps.take k).map partS := ⟨_, rfl⟩
        rw [← hqs] at HO HMT hl1
        have HCS := Lib.hid (fun w => ssplit_any p 45 w (by omega))
        have HCP := Lib.hid (cutS_part 45 p)
        clear hp hbel hqs
        by_cases hc2 : (cutS 45 p).length = 2
        · obtain ⟨a, b, hab⟩ : ∃ a b, cutS 45 p = [a, b] := by
            match hq : cutS 45 p, hc2 with
            | [a, b], _ => exact ⟨a, b, rfl⟩
          obtain ⟨hok, hpt⟩ := okS_parts hab
          have haz := HCP.out a (by rw [hab]; simp)
          have hbz := HCP.out b (by rw [hab]; simp)
          rw [hab] at HCS
          have HOK := Lib.hid hok
          have HPQ := Lib.hid hpt
          clear hc2 hab hok hpt
          go_wp2_with (go_at_call 57; refine (HCS.out _).mono ?_; rintro e w2 ⟨v2, rfl, ho2, hb2⟩; refine Hid.out ?_)
          refine Lib.hid ?_
          obtain ⟨g2, cap2, rfl, _, _⟩ := World.ownsRow.form (n := 2) (xs := strV [a, b]) ho2 (by omega)
          have a0 : w2.cell? ⟨g2, 0, none⟩ = some (.string a) := World.ownsRow.cellAt (n := 2) (xs := strV [a, b]) ho2 0 (by decide)
          have a1 : w2.cell? ⟨g2, 1, none⟩ = some (.string b) := World.ownsRow.cellAt (n := 2) (xs := strV [a, b]) ho2 1 (by decide)
          have HB2 := Lib.hid (Below.next HB.out hb2)
          have HO2 := Lib.hid (HO.out.below hb2)
          clear ho2 hb2 HO HB HCS
          by_cases hb : 2 ≤ b.size
          · obtain ⟨m, hm⟩ : ∃ m, b.size = m + 1 := ⟨b.size - 1, by omega⟩
            have hbi : ¬ ((m + 1 : Nat) : Int) < 2 := by omega
            have hbj : ((m + 1 : Nat) : Int) - 1 = (m : Int) := by omega
            rw [hm, Nat.add_sub_cancel] at HOK HPQ
            rw [decide_eq_true (show 2 ≤ m + 1 by omega)] at HOK
            have HNA := Lib.hid (fun w => snum_any a w (by unfold maxLen; omega))
            have HNB := Lib.hid (fun w => snum_any (b.extract 0 m) w (by rw [ByteArray.size_extract]; unfold maxLen; omega))
            obtain ⟨N, hN⟩ : ∃ N, b.extract 0 m = N := ⟨_, rfl⟩
            obtain ⟨C, hC⟩ : ∃ C, b.extract m (m + 1) = C := ⟨_, rfl⟩
            rw [hN] at HOK HPQ HNB
            rw [hC] at HPQ
            have hmi : (m : Int) ≤ ((m + 1 : Nat) : Int) := by omega
            generalize numR a.data.toList = za at *
            generalize numR N.data.toList = zb at *
            cases ca : canB a.data.toList
            · have HN2 := Lib.hid (HBD.out (by rw [HOK.out, ca]; rfl))
              rw [ca] at HNA
              generalize canB N.data.toList = cb at *
              clear ca hb
              go_wp2_with (go_at_call 58; (first | (with_reducible refine (HNA.out _).mono ?_) | (with_reducible refine (HNB.out _).mono ?_)); rintro e w3 ⟨rfl, rfl⟩)
              go_ret2
              exact rdsret_no HN2.out (HB1.out.trans (HB2.out.mono HB1.out.size))
            · rw [ca] at HNA HOK
              cases cb : canB N.data.toList
              · have HN2 := Lib.hid (HBD.out (by rw [HOK.out, cb]; rfl))
                rw [cb] at HNB
                clear ca cb hb
                go_wp2_with (go_at_call 58; (first | (with_reducible refine (HNA.out _).mono ?_) | (with_reducible refine (HNB.out _).mono ?_)); rintro e w3 ⟨rfl, rfl⟩)
                go_ret2
                exact rdsret_no HN2.out (HB1.out.trans (HB2.out.mono HB1.out.size))
              · rw [cb] at HNB HOK
                clear ca cb hb
                go_wp2_with (first
                  | (go_at_call 58; (first | (with_reducible refine (HNA.out _).mono ?_) | (with_reducible refine (HNB.out _).mono ?_)); rintro e w3 ⟨rfl, rfl⟩)
                  | (at_builtin; (refine wpList_app_secn rfl _ _ w1.heap.size _ qs (za, zb, C) w1 w2 _ HO2.out HB2.out (Nat.le_refl _) hl1 rfl rfl _ (by simp) rfl ?_)))
                intro v' w4 h4 hb4
                have HO4 := Lib.hid h4
                have HB4 := Lib.hid hb4
                clear h4 hb4
                go_wp2
                go_roundw
                case rel => exact ⟨k + 1, by omega, by go_num, by rw [HAT.out, HA.out, HOK.out]; rfl, by rw [HMT.out, HPQ.out]; exact HO4.out, HB4.out⟩
                case measure => simp [intOf]; omega
          · have HN2 := Lib.hid (HBD.out (by rw [HOK.out, decide_eq_false hb]; rfl))
            have hbi : (b.size : Int) < 2 := by omega
            clear hb
            go_wp2
            go_ret2
            exact rdsret_no HN2.out (HB1.out.trans (HB2.out.mono HB1.out.size))
        · have HN2 := Lib.hid (HBD.out (okS_len hc2))
          obtain ⟨n2, hn2⟩ : ∃ n2, n2 = (cutS 45 p).length := ⟨_, rfl⟩
          have hne : ((n2 : Int) == 2) = false := by rw [beq_eq_false_iff_ne]; omega
          have hne2 : ((n2 : Int) != 2) = true := by rw [bne, hne]; rfl
          have hp2 : 0 < (cutS 45 p).length := List.length_pos_iff.2 (cut_pos 45 p)
          have HN3 := Lib.hid hn2
          clear hc2 hn2
          go_wp2_with (go_at_call 57; refine (HCS.out _).mono ?_; rintro e w2 ⟨v2, rfl, ho2, hb2⟩; refine Hid.out ?_)
          refine Lib.hid ?_
          rw [strV_len, ← HN3.out] at ho2
          rw [← HN3.out] at hp2
          obtain ⟨g2, cap2, rfl, _, _⟩ := ho2.form hp2
          have HB2 := Lib.hid (Below.next HB.out hb2)
          clear ho2 hb2 hp2 HO HB HCS
          go_wp2
          go_ret2
          exact rdsret_no HN2.out (HB1.out.trans (HB2.out.mono HB1.out.size))
      · obtain rfl : k = ps.length := by omega
        have ha := HA.out
        rw [List.take_of_length_le (Nat.le_refl _)] at ha HO
        obtain ⟨qs, hqs⟩ : ∃ qs, qs = ps.map partS := ⟨_, rfl⟩
        have hql : qs.length ≤ 1048576 := by rw [hqs, List.length_map]; omega
        rw [← hqs] at HO HF
        have HA2 := Lib.hid ha
        clear ha hqs hbel
        have HVV := Lib.hid (fun w v h => sokay_any v qs w hql h)
        cases hv : validS qs
        · have HN := Lib.hid (show rdsS s = none by rw [HF.out, if_neg (fun h => by rw [h.2.2] at hv; cases hv)])
          rw [hv] at HVV
          go_wp2_with (go_at_call 59; refine (HVV.out _ _ HO.out.are).mono ?_; rintro e w2 ⟨rfl, m, rfl⟩)
          go_ret2
          exact rdsret_no HN.out (HB1.out.trans (below_drewN (HB.out.mono HB1.out.size) m))
        · have HY := Lib.hid (show rdsS s = some qs by rw [HF.out, if_pos ⟨h12, HA2.out, hv⟩])
          rw [hv] at HVV
          go_wp2_with (go_at_call 59; refine (HVV.out _ _ HO.out.are).mono ?_; rintro e w2 ⟨rfl, m, rfl⟩)
          go_ret2
          exact ⟨_, by rw [HY.out]; rfl, by rw [HY.out]; exact (HO.out.drewN m).mono HB1.out.size, HB1.out.trans (below_drewN (HB.out.mono HB1.out.size) m)⟩
  · have HN := Lib.hid (show rdsS s = none by rw [HF.out, if_neg (fun h => h12 h.1)])
    have h12i : (12 : Int) < (ps.length : Int) := by omega
    go_enter Tryz.func25, Tryz.ntmps25
    go_wp2_with (go_at_call 57; refine HSP.out.mono ?_; rintro e w1 ⟨v1, rfl, ho1, hb1⟩; refine Hid.out ?_)
    refine Lib.hid ?_
    rw [strV_len] at ho1
    obtain ⟨g, cap, rfl, _, _⟩ := ho1.form hpos
    have HB1 := Lib.hid hb1
    clear ho1 hb1
    go_wp2
    go_ret2
    exact rdsret_no HN.out HB1.out
theorem sreadsecs_any (s : ByteArray) (w : World) (hs : s.size ≤ 1048576) :
    Calls Tryz.prog 6 #[.string s] w (RdsRet (rdsS s) w) := by
  have H := Lib.hid (sread_any s w hs)
  obtain ⟨o, ho⟩ : ∃ o, o = rdsS s := ⟨_, rfl⟩
  rw [← ho] at H ⊢
  clear ho
  go_enter Tryz.func6, Tryz.ntmps6
  go_wp2_with (go_at_call 25; refine H.out.mono ?_; rintro e w1 ⟨v, rfl, hov, hb⟩; have HO := Lib.hid hov; have AC := Lib.hid hb; clear hov hb)
  go_ret2
  exact ⟨v, rfl, HO.out, AC.out⟩
theorem rds_len (s : ByteArray) : ((rdsS s).getD []).length ≤ 1048576 := by
  unfold rdsS
  split
  · simp
  · split
    · rename_i h
      have := h.1
      show ((cutS 44 s).map partS).length ≤ _
      rw [List.length_map]; omega
    · simp
end Go.Proofs.YtlelcecbpahliaaGreatDoor
