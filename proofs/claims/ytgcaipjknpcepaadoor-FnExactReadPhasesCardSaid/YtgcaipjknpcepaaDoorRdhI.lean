/- Reading phases: the program's. -/
import Derived.Test.YtgcaipjknpcepaaDoorRdhM
import Derived.Test.YtgcaipjknpcepaaDoorPhsN
import Derived.Test.YtgcaipjknpcepaaDoorReadI
namespace Go.Proofs.YtgcaipjknpcepaaDoor
open Go.ChangeShapes Go.WideShapes Go.ChangeAt Go.RowKit Pm

/-- What a reading returns. -/
def RdhRet (s : ByteArray) (w : World) (e : Ending) (w' : World) : Prop :=
  ∃ v, e = .returned (.tuple #[v, .bool (rdhB s)]) ∧ OwnPh w' w.heap.size v (rdhL s) ∧ Below w.heap.size w w'
theorem rdhret_no {s : ByteArray} {w w' : World} (h : rdhB s = false) (hb : Below w.heap.size w w') : RdhRet s w (.returned (.tuple #[.slice none 0 0, .bool false])) w' :=
  ⟨_, by rw [h], by rw [rdh_no h]; exact OwnPh.none _ _, hb⟩
theorem uncol_any (s : ByteArray) (w : World) :
    Calls Tryd.prog 75 #[.string s] w fun e w' => e = .returned (.string (unC s)) ∧ w = w' := by
  cases h : (s.toList == [45])
  · have HV := Lib.hid (show unC s = s by unfold unC; rw [h]; rfl)
    go_enter Tryd.func75, Tryd.ntmps75
    go_wp2
    go_ret
    exact ⟨retS HV.out.symm, rfl⟩
  · have HV := Lib.hid (show unC s = ⟨#[]⟩ by unfold unC; rw [h]; rfl)
    go_enter Tryd.func75, Tryd.ntmps75
    go_wp2
    go_ret
    exact ⟨retS HV.out.symm, rfl⟩

theorem val_any2 (v : Value) (ps : List Ph) (w : World) (hm : ps.length ≤ 1048577) (h : PhAre w v ps) :
    Calls Tryd.prog 69 #[v] w fun e w' => e = .returned (.bool (validP ps)) ∧ Below w.heap.size w w' := by
  by_cases hs : ps.length ≤ 1048576
  · exact val_any v ps w hs h
  · obtain ⟨a, c, rfl, _⟩ := h
    have H1 := ints_one w .i64 (ps.length : Int) 3
    have HV := Lib.hid (validP_long (ps := ps) (by omega))
    have hin : inB 1 40 [(ps.length : Int)] = false := by simp [inB]; omega
    clear hs
    go_enter Tryd.func69, Tryd.ntmps69
    go_wp2_with (go_at_call 98; refine (within_int _ _ _ _ _ H1).mono ?_; rintro e w1 ⟨rfl, hw1⟩)
    go_ret
    exact ⟨retB HV.out.symm, by rw [← hw1]; exact (Below.refl _ _).alloc (Nat.le_refl _) _⟩
set_option maxRecDepth 100000 in
set_option maxHeartbeats 1000000 in
theorem readph_any (s : ByteArray) (w : World) (hs : s.size ≤ 1048576) (hL : LenAt w) (hP : PowAt w) (hE : ErrsAt w) :
    Calls Tryd.prog 38 #[.string s] w (RdhRet s w) := by
  have HSP := Lib.hid (split_any s 44 w hs hL)
  have HPT := Lib.hid (cutS_part 44 s)
  have HPW := Lib.hid hP
  have HER := Lib.hid hE
  have hcl := cutS_le 44 s
  have HY := Lib.hid (show (cutS 44 s).all noneB = true → rdhB s = validP ((cutS 44 s).map partP) from fun h => by unfold rdhB; rw [h]; rfl)
  have HYL := Lib.hid (fun h => rdh_yes (s := s) h)
  have HNE := Lib.hid (fun k h => rdh_empty (s := s) (k := k) h)
  have hpos : 0 < (cutS 44 s).length := by rw [cutS_len]; omega
  obtain ⟨ps, hps⟩ : ∃ ps, ps = cutS 44 s := ⟨_, rfl⟩
  rw [← hps] at HSP HPT HY HYL HNE hpos hcl
  have hps1 : ps.length ≤ 1048577 := by omega
  clear hL hP hE hps hcl
  go_enter Tryd.func38, Tryd.ntmps38
  go_wp2_with (go_at_call 57; refine HSP.out.mono ?_; rintro e w1 ⟨v1, rfl, ho1, hb1⟩; refine Hid.out ?_)
  refine Lib.hid ?_
  rw [strV_len] at ho1
  obtain ⟨g, cap, rfl, _, _⟩ := ho1.form hpos
  have HO1 := Lib.hid ho1
  have HB1 := Lib.hid hb1
  have HPW := Lib.hid (HPW.out.below hb1)
  have HER := Lib.hid (HER.out.below hb1)
  clear ho1 hb1
  go_wp2_with (fail)
  go_loopw [4, 12] (fun v i wr => ∃ (k : Nat), k ≤ ps.length ∧ i = .int .i64 k ∧ (ps.take k).all noneB = true ∧ OwnPh wr w1.heap.size v ((ps.take k).map partP) ∧ Below w1.heap.size w1 wr) (fun _ i _ => ps.length - (intOf i).toNat)
  case atStart => exact ⟨0, Nat.zero_le _, rfl, rfl, OwnPh.none _ _, Below.refl _ _⟩
  case round =>
    obtain ⟨k, hk, rfl, hall, hown, hbel⟩ := hrel
    have HA := Lib.hid hall
    have HO := Lib.hid hown
    have HB := Lib.hid hbel
    clear hall hown
    by_cases hlt : k < ps.length
    · have hkn : (k : Int) < (ps.length : Int) := by omega
      have hcell := (own_below HO1.out hbel).cellAt k (by omega)
      rw [show (strV ps)[k]? = some (.string ps[k]) by simp [strV, hlt]] at hcell
      have HNO := Lib.hid (fun h => HNE.out k hlt h)
      have hsz := HPT.out _ (List.getElem_mem hlt)
      have HMT := Lib.hid (map_take hlt)
      have HAT := Lib.hid (none_take hlt)
      have hl1 : ((ps.take k).map partP).length ≤ 1048577 := by rw [List.length_map, List.length_take]; omega
      obtain ⟨p, hp⟩ : ∃ p, p = ps[k] := ⟨_, rfl⟩
      rw [← hp] at hcell HNO hsz HMT HAT
      obtain ⟨qs, hqs⟩ : ∃ qs, qs = (ps.take k).map partP := ⟨_, rfl⟩
      rw [← hqs] at HO HMT hl1
      clear hp hbel hqs
      cases he : p.toList.isEmpty
      · have h1 := noneB_size he
        have HD := Lib.hid (fun w h1 h2 => readdec_any (p.extract 1 p.size) w (by rw [ByteArray.size_extract]; omega) h1 h2)
        have HU := Lib.hid (fun w => uncol_any (p.extract 0 1) w)
        have HN2 := Lib.hid (show noneB p = true by unfold noneB; rw [he]; rfl)
        have HPP := Lib.hid (show partP p = (unC (p.extract 0 1), numR (p.extract 1 p.size).data.toList) from rfl)
        generalize unC (p.extract 0 1) = c at *
        generalize numR (p.extract 1 p.size).data.toList = z at *
        generalize canB (p.extract 1 p.size).data.toList = bb at *
        have h1i : (1 : Int) ≤ (p.size : Int) := by omega
        clear HNO
        go_wp2_with (first
          | (go_at_call 74; refine (HD.out _ (HPW.out.below HB.out) (HER.out.below HB.out)).mono ?_; rintro e w2 ⟨rfl, hb2⟩; have HO2 := Lib.hid (HO.out.below hb2); have HB2 := Lib.hid (Below.next HB.out hb2); clear hb2)
          | (go_at_call 75; refine (HU.out _).mono ?_; rintro e w3 ⟨rfl, rfl⟩)
          | (at_builtin; (refine wpList_app_ph rfl _ _ w1.heap.size _ qs (c, z) w1 _ _ HO2.out HB2.out (Nat.le_refl _) hl1 rfl rfl rfl ?_)))
        intro v' w4 h4 hb4
        have HO4 := Lib.hid h4
        have HB4 := Lib.hid hb4
        clear h4 hb4
        go_wp2
        go_roundw
        case rel => exact ⟨k + 1, by omega, by go_num, by rw [HAT.out, HA.out, HN2.out]; rfl, by rw [HMT.out, HPP.out]; exact HO4.out, HB4.out⟩
        case measure => simp [intOf]; omega
      · have HV := Lib.hid (HNO.out (by unfold noneB; rw [he]; rfl))
        go_wp2
        go_ret2
        exact rdhret_no HV.out (HB1.out.trans (HB.out.mono HB1.out.size))
    · obtain rfl : k = ps.length := by omega
      have ha := HA.out
      rw [List.take_of_length_le (Nat.le_refl _)] at ha HO
      have HR := Lib.hid (HY.out ha)
      obtain ⟨qs, hqs⟩ : ∃ qs, qs = ps.map partP := ⟨_, rfl⟩
      have hql : qs.length ≤ 1048577 := by rw [hqs, List.length_map]; exact hps1
      rw [← hqs] at HO HR
      have HYL2 := Lib.hid (fun h => (HYL.out h).trans hqs.symm)
      clear ha hqs hbel
      have HVV := Lib.hid (fun w v h => val_any2 v qs w hql h)
      cases hv : validP qs
      · rw [hv] at HVV HR
        go_wp2_with (go_at_call 69; refine (HVV.out _ _ HO.out.are).mono ?_; rintro e w2 ⟨rfl, hb⟩; have HB2 := Lib.hid (Below.next HB.out hb); clear hb)
        go_ret2
        exact rdhret_no HR.out (HB1.out.trans (HB2.out.mono HB1.out.size))
      · rw [hv] at HVV HR
        go_wp2_with (go_at_call 69; refine (HVV.out _ _ HO.out.are).mono ?_; rintro e w2 ⟨rfl, hb⟩; have HB2 := Lib.hid (Below.next HB.out hb); have HO2 := Lib.hid (HO.out.below hb); clear hb)
        go_ret2
        exact ⟨u4, by rw [HR.out]; rfl, by rw [HYL2.out HR.out]; exact HO2.out.mono HB1.out.size, HB1.out.trans (HB2.out.mono HB1.out.size)⟩
end Go.Proofs.YtgcaipjknpcepaaDoor
