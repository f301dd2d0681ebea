/- Reading sectors: the program's. -/
import Derived.Test.YtlelcecbpahliaaGreatDoorRseM
import Derived.Test.YtlelcecbpahliaaGreatDoorSxtI
import Derived.Test.YtlelcecbpahliaaGreatDoorSctN
import Derived.Test.YtlelcecbpahliaaGreatDoorResC
import Derived.BigRegion
import Derived.Shelf.Strings.SlTrimAscii
namespace Go.Proofs.YtlelcecbpahliaaGreatDoor
open Go.ChangeShapes Go.WideShapes Go.ChangeAt Go.RowKit Pm

def LenAtS (w : World) : Prop := ∃ m, w.cell? ⟨Tryz.laysM146_ren.g 1, 0, none⟩ = some (.int .i64 m)
theorem LenAtS.below {w w' : World} (h : LenAtS w) (hb : Below w.heap.size w w') : LenAtS w' := by
  obtain ⟨m, hm⟩ := h
  exact ⟨m, cell_below hm hb⟩
theorem lenS_of {w : World} (h : w.ShapedOpen Tryz.prog) : LenAtS w := Tryz.laysM146.s1_3 w h
theorem splitS_any (s : ByteArray) (c : UInt8) (w : World) (hs : s.size ≤ 1048576) (hl : LenAtS w) :
    Calls Tryz.prog 26 #[.string s, .string ⟨#[c]⟩] w (OwnRet 9 (strV (cutS c s)) w) := by
  obtain ⟨m, hm⟩ := hl
  have h := Any.strings_Split { Tryz.laysM146 with } Tryz.laysM146.i9 s ⟨#[c]⟩ m w (by omega) hm (Nat.le_refl 1)
  refine h.mono fun e w' ⟨he, hw⟩ => ?_
  rw [splitB_cut] at hw
  rw [← cutS_len] at he
  have hle := cutS_le c s
  have hsz : (strV (cutS c s)).toArray.size = (cutS c s).length := by simp [strV]
  refine ⟨_, he, ?_, by rw [hw]; exact (Below.refl _ _).alloc (Nat.le_refl _) _⟩
  rw [hw, strV_len]
  exact World.ownsRow_lit w (strV (cutS c s)).toArray (cutS c s).length (Nat.le_refl _) (by unfold maxLen; omega) (by simp [strV])
theorem trim_any (s : ByteArray) (w : World) (hs : s.size ≤ 1048576) :
    Calls Tryz.prog 61 #[.string s, .string ⟨#[87, 82, 71, 89]⟩] w fun e w' => e = .returned (.string (arcI s)) ∧ Below w.heap.size w w' :=
  Any.strings_TrimRight_laid Tryz.lays162 (by kernel_rfl) s ⟨#[87, 82, 71, 89]⟩ w (by omega) (by decide) (by
    intro j b hj
    have : j < 4 := by
      rcases Nat.lt_or_ge j 4 with h' | h'
      · exact h'
      · rw [List.getElem?_eq_none (by simpa using h')] at hj; cases hj
    match j, this with
    | 0, _ => simp at hj; subst hj; decide
    | 1, _ => simp at hj; subst hj; decide
    | 2, _ => simp at hj; subst hj; decide
    | 3, _ => simp at hj; subst hj; decide)
theorem arc_size (s : ByteArray) : (arcI s).size ≤ s.size := by
  have h1 : (arcI s).size = (Lib.trimRightS s.data.toList cutset).length := rfl
  have h2 : s.size = s.data.toList.length := rfl
  rw [h1, h2]
  unfold Lib.trimRightS
  rw [List.length_reverse]
  exact Nat.le_trans (List.Sublist.length_le (List.dropWhile_sublist _)) (by rw [List.length_reverse]; exact Nat.le_refl _)
theorem retA {a b c d : Int} {s u : ByteArray} (h : (a, c, s) = (b, d, u)) : Ending.returned (.agg #[.int .i64 a, .int .i64 c, .string s]) = .returned (.agg #[.int .i64 b, .int .i64 d, .string u]) := by
  cases h; rfl
theorem rng3 {w : World} {g : Nat} {a b c u v x : Value} (h0 : w.cell? ⟨g, 0, none⟩ = some u) (h1 : w.cell? ⟨g, 1, none⟩ = some v) (h2 : w.cell? ⟨g, 2, none⟩ = some x) :
    (((w.setCell ⟨g, 0, none⟩ a).setCell ⟨g, 1, none⟩ b).setCell ⟨g, 2, none⟩ c).rangeAt g 0 [a, b, c] := by
  have o : ∀ (w : World) (j k : Nat) (x : Value), j ≠ k → (w.setCell ⟨g, j, none⟩ x).cell? ⟨g, k, none⟩ = w.cell? ⟨g, k, none⟩ := fun w j k x h => World.cell?_setCell_other _ _ _ _ (by intro e; simp at e)
  intro j z hj
  rw [Nat.zero_add]
  match j, hj with
  | 0, hj => simp at hj; subst hj; rw [o _ 2 0 _ (by omega), o _ 1 0 _ (by omega), World.cell?_setCell_same _ _ _ h0]
  | 1, hj => simp at hj; subst hj; rw [o _ 2 1 _ (by omega), World.cell?_setCell_same _ _ _ ((o _ 0 1 _ (by omega)).trans h1)]
  | 2, hj => simp at hj; subst hj; rw [World.cell?_setCell_same _ _ _ ((o _ 1 2 _ (by omega)).trans ((o _ 0 2 _ (by omega)).trans h2))]
set_option maxHeartbeats 1000000 in
theorem readsec_any (s : ByteArray) (w : World) (hs : s.size ≤ 1048576) (hl : LenAt7 w) (hE : ErrsAt w) :
    Calls Tryz.prog 27 #[.string s] w fun e w' => e = .returned (.agg #[.int .i64 (partI s).1, .int .i64 (partI s).2.1, .string (partI s).2.2]) ∧ Below w.heap.size w w' := by
  have HT := Lib.hid (fun w => trim_any s w hs)
  have hasz := arc_size s
  have HL := Lib.hid hl
  have HE := Lib.hid hE
  have HB0 := Lib.hid (show Below w.heap.size w (w.alloc (.cells #[.int .i64 0, .int .i64 0, .string ⟨#[]⟩] 52)) from (Below.refl _ _).alloc (Nat.le_refl _) _)
  cases hok : okPartI s
  · have HV := Lib.hid (show partI s = (0, 0, ⟨#[]⟩) by unfold partI; rw [if_neg (by simp [hok])])
    have HP := Lib.hid (fun w h1 h2 => parts_no (arcI s) 45 2 w (by omega) (by omega) (by omega) h1 h2 (by
      unfold okPartI at hok
      rintro ⟨h1, h2⟩
      rw [h1, h2] at hok; simp at hok))
    obtain ⟨a, ha⟩ : ∃ a, a = arcI s := ⟨_, rfl⟩
    rw [← ha] at HT HP
    clear hok hasz ha hl hE
    go_enter Tryz.func27, Tryz.ntmps27
    go_wp2_with (go_at_call 61; refine (HT.out _).mono ?_; rintro e w1 ⟨rfl, hb⟩; refine Hid.out ?_)
    refine Lib.hid ?_
    have AC := Lib.hid (Below.next HB0.out hb)
    have r0 : w1.cell? ⟨w.heap.size, 0, none⟩ = some (.int .i64 0) := cell_below (by simp) hb
    have r1 : w1.cell? ⟨w.heap.size, 1, none⟩ = some (.int .i64 0) := cell_below (by simp) hb
    have r2 : w1.cell? ⟨w.heap.size, 2, none⟩ = some (.string ⟨#[]⟩) := cell_below (by simp) hb
    have z0 : w1.frozen? ⟨w.heap.size, 0, none⟩ = false := frozen_kept hb (by simp) (by simp)
    have z1 : w1.frozen? ⟨w.heap.size, 1, none⟩ = false := frozen_kept hb (by simp) (by simp)
    have z2 : w1.frozen? ⟨w.heap.size, 2, none⟩ = false := frozen_kept hb (by simp) (by simp)
    clear hb
    go_wp2_with (go_at_call 62; refine (HP.out _ (HL.out.below AC.out) (HE.out.below AC.out)).mono ?_; rintro e w2 ⟨rfl, hb⟩; refine Hid.out ?_)
    refine Lib.hid ?_
    have AC2 := Lib.hid (Below.next AC.out hb)
    have x0 := cell_below r0 hb
    have x1 := cell_below r1 hb
    have x2 := cell_below r2 hb
    have y0 := frozen_kept hb z0 (lt_of_cell r0)
    have y1 := frozen_kept hb z1 (lt_of_cell r1)
    have y2 := frozen_kept hb z2 (lt_of_cell r2)
    clear hb r0 r1 r2 z0 z1 z2
    have AC3 := Lib.hid (((AC2.out.setCell (p := ⟨w.heap.size, 0, none⟩) (Nat.le_refl _) (.int .i64 0)).setCell (p := ⟨w.heap.size, 1, none⟩) (Nat.le_refl _) (.int .i64 0)).setCell (p := ⟨w.heap.size, 2, none⟩) (Nat.le_refl _) (.string ⟨#[]⟩))
    have RG := Lib.hid (rng3 (a := .int .i64 0) (b := .int .i64 0) (c := .string ⟨#[]⟩) x0 x1 x2)
    go_wp2_with (fail)
    refine body_cell (p := 2) (ty := 52) rfl w.heap.size [.int .i64 0, .int .i64 0, .string ⟨#[]⟩] _ rfl RG.out Tryz.underlying52 rfl (by kernel_rfl) rfl ⟨?_, AC3.out⟩
    exact retA HV.out.symm
  · have HP := Lib.hid (fun w h1 h2 => parts_yes (arcI s) 45 2 w (by omega) (by omega) (by omega) h1 h2 (by
      unfold okPartI at hok
      simpa using hok))
    have HV := Lib.hid (show partI s = (((pcs 45 2 (arcI s)).map pVal).getD 0 0, ((pcs 45 2 (arcI s)).map pVal).getD 1 0, s.extract (arcI s).size s.size) by unfold partI; rw [if_pos hok])
    generalize (pcs 45 2 (arcI s)).map pVal = zs at *
    obtain ⟨a, ha⟩ : ∃ a, a = arcI s := ⟨_, rfl⟩
    rw [← ha] at HT HP HV hasz
    have hai : (a.size : Int) ≤ (s.size : Int) := by omega
    clear hok ha hl hE
    go_enter Tryz.func27, Tryz.ntmps27
    go_wp2_with (go_at_call 61; refine (HT.out _).mono ?_; rintro e w1 ⟨rfl, hb⟩; refine Hid.out ?_)
    refine Lib.hid ?_
    have AC := Lib.hid (Below.next HB0.out hb)
    have r0 : w1.cell? ⟨w.heap.size, 0, none⟩ = some (.int .i64 0) := cell_below (by simp) hb
    have r1 : w1.cell? ⟨w.heap.size, 1, none⟩ = some (.int .i64 0) := cell_below (by simp) hb
    have r2 : w1.cell? ⟨w.heap.size, 2, none⟩ = some (.string ⟨#[]⟩) := cell_below (by simp) hb
    have z0 : w1.frozen? ⟨w.heap.size, 0, none⟩ = false := frozen_kept hb (by simp) (by simp)
    have z1 : w1.frozen? ⟨w.heap.size, 1, none⟩ = false := frozen_kept hb (by simp) (by simp)
    have z2 : w1.frozen? ⟨w.heap.size, 2, none⟩ = false := frozen_kept hb (by simp) (by simp)
    clear hb
    go_wp2_with (go_at_call 62; refine (HP.out _ (HL.out.below AC.out) (HE.out.below AC.out)).mono ?_; rintro e w2 ⟨b, rfl, hz, hb⟩; refine Hid.out ?_)
    refine Lib.hid ?_
    have AC2 := Lib.hid (Below.next AC.out hb)
    have x0 := cell_below r0 hb
    have x1 := cell_below r1 hb
    have x2 := cell_below r2 hb
    have y0 := frozen_kept hb z0 (lt_of_cell r0)
    have y1 := frozen_kept hb z1 (lt_of_cell r1)
    have y2 := frozen_kept hb z2 (lt_of_cell r2)
    have c0 := hz 0 (by omega)
    have c1 := hz 1 (by omega)
    generalize zs.getD 0 0 = f at *
    generalize zs.getD 1 0 = t at *
    have HX := Lib.hid (show ∀ u, s.extract a.size s.size = u → partI s = (f, t, u) from fun u h => by rw [HV.out, h])
    obtain ⟨u, hu⟩ : ∃ u, s.extract a.size s.size = u := ⟨_, rfl⟩
    have HV2 := Lib.hid (HX.out u hu)
    have AC3 := Lib.hid (((AC2.out.drew.setCell (p := ⟨w.heap.size, 0, none⟩) (Nat.le_refl _) (.int .i64 f)).setCell (p := ⟨w.heap.size, 1, none⟩) (Nat.le_refl _) (.int .i64 t)).setCell (p := ⟨w.heap.size, 2, none⟩) (Nat.le_refl _) (.string u))
    have RG := Lib.hid (rng3 (w := w2.drew) (a := .int .i64 f) (b := .int .i64 t) (c := .string u) x0 x1 x2)
    clear hb hz r0 r1 r2 z0 z1 z2 HX
    go_wp2_with (fail)
    go_region
    go_wp2_with (fail)
    refine body_cell (p := 2) (ty := 52) rfl w.heap.size [.int .i64 f, .int .i64 t, .string u] _ rfl RG.out Tryz.underlying52 rfl (by kernel_rfl) rfl ⟨?_, AC3.out⟩
    exact retA HV2.out.symm
/-- What a reading returns. -/
theorem rb_yes7 {a b : ByteArray} (h : a = b) : (a.toList == b.toList) = true ∧ (a.toList != b.toList) = false := by subst h; simp
theorem rb_no7 {a b : ByteArray} (h : ¬ a = b) : (a.toList == b.toList) = false ∧ (a.toList != b.toList) = true := by
  have h2 : (a.toList == b.toList) = false := by
    rw [beq_eq_false_iff_ne]
    intro e
    rw [ByteArray.toList_eq, ByteArray.toList_eq] at e
    exact h (WideShapes.bytes_inj e)
  exact ⟨h2, by rw [bne, h2]; rfl⟩
theorem rb_full7 {s : ByteArray} (hs : 0 < s.size) : s.toList.isEmpty = false := by
  rw [List.isEmpty_eq_false_iff]
  intro e
  rw [ByteArray.toList_eq] at e
  have h : s.data.size = 0 := by rw [← Array.length_toList, e]; rfl
  have h2 : s.size = s.data.size := rfl
  omega
theorem rb_void7 {s : ByteArray} (hs : ¬ 0 < s.size) : s.toList.isEmpty = true := by
  rw [List.isEmpty_iff, ByteArray.toList_eq]
  have h2 : s.size = s.data.size := rfl
  have h : s.data.toList.length = 0 := by rw [Array.length_toList]; omega
  exact List.length_eq_zero_iff.1 h
theorem sectext_pos {qs : List Sec} (h : validS qs = true) : 0 < (secText qs).size := by
  unfold secText
  rw [if_pos h]
  unfold sxtA
  split
  · exact Nat.zero_lt_one
  · match qs with
    | [] => rename_i h0; exact absurd rfl h0
    | p :: r =>
      obtain ⟨tl, e⟩ : ∃ tl, sxtJ (p :: r) = sxtT p ++ tl := by unfold sxtJ; rw [List.map_cons, Lib.join_cons]; exact ⟨_, rfl⟩
      have e2 : 1 ≤ (sxtT p).length := by
        have h1 : (sxtT p).length = (secS p).size := by unfold sxtT; simp
        have h2 : (secS p).size = (itoaS p.1).size + 1 + (itoaS p.2.1).size + p.2.2.size := by
          unfold secS
          rw [ByteArray.size_append, ByteArray.size_append, ByteArray.size_append]
          rfl
        omega
      show 0 < (sxtJ (p :: r)).toArray.size
      rw [List.size_toArray, e, List.length_append]
      omega
set_option maxRecDepth 100000 in
set_option maxHeartbeats 1000000 in
theorem rbsec_any (v : Value) (s T : ByteArray) (w : World) (hv : ∃ a n c, v = .slice a n c)
    (HT : ∀ w', Below w.heap.size w w' → Calls Tryz.prog 29 #[v] w' fun e w'' => e = .returned (.string T) ∧ Below w'.heap.size w' w'') :
    Calls Tryz.prog 28 #[v, .func (.func 29) #[] #[], .string s] w fun e w' => e = .returned (if 0 < s.size ∧ T = s then .tuple #[v, .bool true] else .tuple #[.slice none 0 0, .bool false]) ∧ Below w.heap.size w w' := by
  obtain ⟨a, n, c, rfl⟩ := hv
  have HTT := Lib.hid HT
  clear HT
  by_cases h0 : 0 < s.size
  · have z1 := rb_full7 h0
    by_cases h : T = s
    · rw [if_pos ⟨h0, h⟩]
      obtain ⟨e1, e2⟩ := rb_yes7 h
      clear h h0
      go_enter Tryz.func28, Tryz.ntmps28
      go_wp2_with (go_at_call 29; refine (HTT.out _ (by go_grown)).mono ?_; rintro e w2 ⟨rfl, hb⟩; have AC := Lib.hid (Below.next (a := w) (by go_grown) hb); clear hb)
      refine bodyPost_ret (v := .tuple #[.slice a n c, .bool true]) (by simp [results, Tryz.results28, go_sem, *]) rfl ⟨rfl, AC.out⟩
    · rw [if_neg (fun k => h k.2)]
      obtain ⟨e1, e2⟩ := rb_no7 h
      clear h h0
      go_enter Tryz.func28, Tryz.ntmps28
      go_wp2_with (go_at_call 29; refine (HTT.out _ (by go_grown)).mono ?_; rintro e w2 ⟨rfl, hb⟩; have AC := Lib.hid (Below.next (a := w) (by go_grown) hb); clear hb)
      refine bodyPost_ret (v := .tuple #[.slice none 0 0, .bool false]) (by simp [results, Tryz.results28, go_sem, *]) rfl ⟨rfl, AC.out⟩
  · rw [if_neg (fun k => h0 k.1)]
    have z1 := rb_void7 h0
    clear h0 HTT
    go_enter Tryz.func28, Tryz.ntmps28
    go_wp2
    refine bodyPost_ret (v := .tuple #[.slice none 0 0, .bool false]) (by simp [results, Tryz.results28, go_sem, *]) rfl ⟨rfl, by go_grown⟩
def RdsRet (o : Option (List Sec)) (w : World) (e : Ending) (w' : World) : Prop :=
  ∃ v, e = .returned (.tuple #[v, .bool o.isSome]) ∧ OwnSec w' w.heap.size v (o.getD []) ∧ Below w.heap.size w w'
theorem rdsret_no {o : Option (List Sec)} {w w' : World} (h : o = none) (hb : Below w.heap.size w w') : RdsRet o w (.returned (.tuple #[.slice none 0 0, .bool false])) w' :=
  ⟨_, by rw [h]; rfl, by rw [h]; exact OwnSec.none _ _, hb⟩
theorem mapI_take {ps : List ByteArray} {k : Nat} (h : k < ps.length) : (ps.take (k + 1)).map partI = (ps.take k).map partI ++ [partI ps[k]] := by
  rw [List.take_succ_eq_append_getElem h, List.map_append]; rfl
set_option maxRecDepth 100000 in
set_option maxHeartbeats 1000000 in
theorem readsecs_any (s : ByteArray) (w : World) (hs : s.size ≤ 1048576) (hL : LenAtS w) (hL7 : LenAt7 w) (hP : PowAt w) (hE : ErrsAt w) :
    Calls Tryz.prog 7 #[.string s] w (RdsRet (rdsI s) w) := by
  by_cases h0 : s.toList = [45]
  · have HV := Lib.hid (show rdsI s = some [] by unfold rdsI; rw [if_pos h0])
    have hq : (s.toList == [45]) = true := by simp [h0]
    clear h0
    go_enter Tryz.func7, Tryz.ntmps7
    go_wp2
    go_ret2
    exact ⟨_, by rw [HV.out]; rfl, by rw [HV.out]; exact OwnSec.none _ _, Below.refl _ _⟩
  have hq : (s.toList == [45]) = false := by rw [beq_eq_false_iff_ne]; exact h0
  have HSP := Lib.hid (splitS_any s 44 w hs hL)
  have HPT := Lib.hid (cutS_part 44 s)
  have hcl := cutS_le 44 s
  have HPW := Lib.hid hP
  have HER := Lib.hid hE
  have HL7 := Lib.hid hL7
  have HF := Lib.hid (show rdsI s = if validS ((cutS 44 s).map partI) = true ∧ secText ((cutS 44 s).map partI) = s then some ((cutS 44 s).map partI) else none by unfold rdsI; rw [if_neg h0])
  have hpos : 0 < (cutS 44 s).length := List.length_pos_iff.2 (cut_pos 44 s)
  obtain ⟨ps, hps⟩ : ∃ ps, ps = cutS 44 s := ⟨_, rfl⟩
  rw [← hps] at HSP HPT HF hpos hcl
  have hps1 : ps.length ≤ 1048577 := by omega
  clear hL hL7 hP hE hps hcl h0
  go_enter Tryz.func7, Tryz.ntmps7
  go_wp2_with (go_at_call 26; refine HSP.out.mono ?_; rintro e w1 ⟨v1, rfl, ho1, hb1⟩; refine Hid.out ?_)
  refine Lib.hid ?_
  rw [strV_len] at ho1
  obtain ⟨g, cap, rfl, _, _⟩ := ho1.form hpos
  have HO1 := Lib.hid ho1
  have HB1 := Lib.hid hb1
  have HPW := Lib.hid (HPW.out.below hb1)
  have HER := Lib.hid (HER.out.below hb1)
  have HL7 := Lib.hid (HL7.out.below hb1)
  clear ho1 hb1
  go_wp2_with (fail)
  go_loopw [4, 12] (fun v i wr => ∃ (k : Nat), k ≤ ps.length ∧ i = .int .i64 k ∧ OwnSec wr w1.heap.size v ((ps.take k).map partI) ∧ Below w1.heap.size w1 wr) (fun _ i _ => ps.length - (intOf i).toNat)
  case atStart => exact ⟨0, Nat.zero_le _, rfl, OwnSec.none _ _, Below.refl _ _⟩
  case round =>
    obtain ⟨k, hk, rfl, hown, hbel⟩ := hrel
    have HO := Lib.hid hown
    have HB := Lib.hid hbel
    clear hown
    by_cases hlt : k < ps.length
    · have hkn : (k : Int) < (ps.length : Int) := by omega
      have hcell := (own_below HO1.out hbel).cellAt k (by omega)
      rw [show (strV ps)[k]? = some (.string ps[k]) by simp [strV, hlt]] at hcell
      have hsz := HPT.out _ (List.getElem_mem hlt)
      have HMT := Lib.hid (mapI_take hlt)
      have hl1 : ((ps.take k).map partI).length ≤ 1048577 := by rw [List.length_map, List.length_take]; omega
      obtain ⟨p, hp⟩ : ∃ p, p = ps[k] := ⟨_, rfl⟩
      rw [← hp] at hcell hsz HMT
      obtain ⟨qs, hqs⟩ : ∃ qs, qs = (ps.take k).map partI := ⟨_, rfl⟩
      rw [← hqs] at HO HMT hl1
      have HD := Lib.hid (fun w h1 h2 => readsec_any p w (by omega) h1 h2)
      have HPE := Lib.hid (show ∀ x, partI p = x → (ps.take (k + 1)).map partI = qs ++ [(x.1, x.2.1, x.2.2)] from fun x h => by rw [HMT.out, h])
      obtain ⟨x, hx⟩ : ∃ x, partI p = x := ⟨_, rfl⟩
      have HPE := Lib.hid (HPE.out x hx)
      rw [hx] at HD
      clear hp hbel hqs hx
      obtain ⟨f, t, u⟩ := x
      simp only at HD HPE
      go_wp2_with (first
        | (go_at_call 27; refine (HD.out _ (HL7.out.below HB.out) (HER.out.below HB.out)).mono ?_; rintro e w2 ⟨rfl, hb2⟩; have HO2 := Lib.hid (HO.out.below hb2); have HB2 := Lib.hid (Below.next HB.out hb2); clear hb2)
        | (at_builtin; (refine wpList_app_sec rfl _ _ w1.heap.size _ qs (f, t, u) w1 _ _ HO2.out HB2.out (Nat.le_refl _) hl1 rfl rfl rfl ?_)))
      intro v' w4 h4 hb4
      have HO4 := Lib.hid h4
      have HB4 := Lib.hid hb4
      clear h4 hb4
      go_wp2
      go_roundw
      case rel => exact ⟨k + 1, by omega, by go_num, by rw [HPE.out]; exact HO4.out, HB4.out⟩
      case measure => simp [intOf]; omega
    · obtain rfl : k = ps.length := by omega
      rw [List.take_of_length_le (Nat.le_refl _)] at HO
      obtain ⟨qs, hqs⟩ : ∃ qs, qs = ps.map partI := ⟨_, rfl⟩
      rw [← hqs] at HO HF
      clear hqs hbel
      have hform : ∃ a n c, u4 = Value.slice a n c := by
        rcases HO.out.form with ⟨h1, _⟩ | ⟨g2, cap2, h1, _⟩
        · exact ⟨_, _, _, h1⟩
        · exact ⟨_, _, _, h1⟩
      have HRB := Lib.hid (rbsec_any u4 s (secText qs) wr hform (fun w' hb => secstext_any u4 qs w' (HO.out.below hb).are (HPW.out.below (Below.next HB.out hb))))
      obtain ⟨a3, n3, c3, rfl⟩ := hform
      by_cases he : 0 < s.size ∧ secText qs = s
      · have HY := Lib.hid (show rdsI s = some qs by
          rw [HF.out, if_pos ⟨by
            cases e : validS qs
            · have h2 := he.2
              unfold secText at h2
              rw [e] at h2
              have h3 := he.1
              rw [← h2] at h3
              cases h3
            · rfl, he.2⟩])
        rw [if_pos he] at HRB
        clear he HF
        go_wp2_with (go_at_call 28; refine HRB.out.mono ?_; rintro e w2 ⟨rfl, hb⟩; have HB2 := Lib.hid (Below.next HB.out hb); have HO2 := Lib.hid (HO.out.below hb); clear hb)
        go_ret2
        exact ⟨_, by rw [HY.out]; rfl, by rw [HY.out]; exact HO2.out.mono HB1.out.size, HB1.out.trans (HB2.out.mono HB1.out.size)⟩
      · have HN := Lib.hid (show rdsI s = none by
          rw [HF.out, if_neg (fun h => he ⟨by have := sectext_pos h.1; rw [h.2] at this; exact this, h.2⟩)])
        rw [if_neg he] at HRB
        clear he HF
        go_wp2_with (go_at_call 28; refine HRB.out.mono ?_; rintro e w2 ⟨rfl, hb⟩; have HB2 := Lib.hid (Below.next HB.out hb); clear hb)
        go_ret2
        exact rdsret_no HN.out (HB1.out.trans (HB2.out.mono HB1.out.size))
end Go.Proofs.YtlelcecbpahliaaGreatDoor
