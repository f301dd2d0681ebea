/- Reading a signal: the program's function. -/
import Derived.Test.YtgnajfdcbpfdjaaDoorRsgJ
import Derived.Test.YtgnajfdcbpfdjaaDoorFnd
import Derived.Test.YtgnajfdcbpfdjaaDoorSplit
import Derived.Test.YtgnajfdcbpfdjaaDoorSlices
import Derived.Test.YtgnajfdcbpfdjaaDoorLayX
namespace Go.Proofs.YtgnajfdcbpfdjaaDoor
open Go.ChangeShapes Go.WideShapes Go.ChangeAt Go.RowKit Pm

def LenAtR (w : World) : Prop := ∃ m, w.cell? ⟨Tryd.laysM146_ren.g 1, 0, none⟩ = some (.int .i64 m)
theorem LenAtR.below {w w' : World} (h : LenAtR w) (hb : Below w.heap.size w w') : LenAtR w' := by
  obtain ⟨m, hm⟩ := h
  exact ⟨m, cell_below hm hb⟩
theorem lenR_of {w : World} (h : w.ShapedOpen Tryd.prog) : LenAtR w := Tryd.laysM146.s1_3 w h
theorem splitR_any (s : ByteArray) (c : UInt8) (w : World) (hs : s.size ≤ 4194304) (hl : LenAtR w) :
    Calls Tryd.prog 25 #[.string s, .string ⟨#[c]⟩] w (OwnRet 9 (strV (cutS c s)) w) := by
  obtain ⟨m, hm⟩ := hl
  have h := Any.strings_Split { Tryd.laysM146 with } Tryd.laysM146.i9 s ⟨#[c]⟩ m w (by omega) hm (Nat.le_refl 1)
  refine h.mono fun e w' ⟨he, hw⟩ => ?_
  rw [splitB_cut] at hw
  rw [← cutS_len] at he
  have hle := cutS_le c s
  have hsz : (strV (cutS c s)).toArray.size = (cutS c s).length := by simp [strV]
  refine ⟨_, he, ?_, by rw [hw]; exact (Below.refl _ _).alloc (Nat.le_refl _) _⟩
  rw [hw, strV_len]
  exact World.ownsRow_lit w (strV (cutS c s)).toArray (cutS c s).length (Nat.le_refl _) (by unfold maxLen; omega) (by simp [strV])
theorem cat_b (A B : List UInt8) : (⟨A.toArray⟩ : ByteArray) ++ (⟨B.toArray⟩ : ByteArray) = ⟨(A ++ B).toArray⟩ := by
  apply ByteArray.ext
  simp [ByteArray.data_append]
theorem size_b (A : List UInt8) : (⟨A.toArray⟩ : ByteArray).size = A.length := by simp [ByteArray.size]
theorem findV_L (c : List UInt8) : (∀ o, findL c = some o → findV ⟨c.toArray⟩ = ⟨o.toArray⟩ ∧ finC ⟨c.toArray⟩ = 0) ∧ (findL c = none → findV ⟨c.toArray⟩ = ⟨#[]⟩ ∧ finC ⟨c.toArray⟩ = 3) := by
  unfold findL findV finC
  cases e : findN ⟨c.toArray⟩ with
  | none => exact ⟨fun o h => (by cases h), fun _ => ⟨rfl, rfl⟩⟩
  | some r => exact ⟨fun o h => (by cases h; exact ⟨rfl, rfl⟩), fun h => (by cases h)⟩
def SC (s : ByteArray) (z : Int) (w : World) (e : Ending) (w' : World) : Prop := e = .returned (.tuple #[.string s, .int .i64 z]) ∧ Below w.heap.size w w'
theorem sc_is {s t : ByteArray} {z y : Int} {w w' : World} (h1 : t = s) (h2 : y = z) (hb : Below w.heap.size w w') : SC s z w (.returned (.tuple #[.string t, .int .i64 y])) w' := ⟨by rw [h1, h2], hb⟩
theorem inU {u : Int} : inB 1 50 [u] = true ↔ 1 ≤ u ∧ u ≤ 50 := by simp [inB]
theorem rd_no {ps : List Ph} {u : Int} (h : 1 ≤ u ∧ u ≤ 50) (ht : txtO (splE ps u) = none) : rdT ps u = ⟨#[]⟩ ∧ rdC ps u = 9 := by
  unfold rdT rdC; rw [if_pos h, if_pos h, ht]; exact ⟨rfl, rfl⟩
theorem rd_yes {ps : List Ph} {u : Int} {o : List UInt8} (h : 1 ≤ u ∧ u ≤ 50) (ht : txtO (splE ps u) = some o) : rdT ps u = ⟨o.toArray⟩ ∧ rdC ps u = 0 := by
  unfold rdT rdC; rw [if_pos h, if_pos h, ht]; exact ⟨rfl, rfl⟩
theorem splE_len (ps : List Ph) (u : Int) : (splE ps u).length ≤ 3 * ps.length := by
  unfold splE; split
  · exact splL_len ps u
  · simp
set_option maxRecDepth 100000 in
set_option maxHeartbeats 4000000 in
theorem readsig_any (v : Value) (ps : List Ph) (u : Int) (w : World) (hl : ps.length ≤ 1048576) (h : PhAre w v ps) (hN : LenAtR w) (hS : SignsAt w) :
    Calls Tryd.prog 14 #[v, .int .i64 u] w (SC (rdT ps u) (rdC ps u) w) := by
  cases hu : inB 1 50 [u]
  · have hn : ¬ (1 ≤ u ∧ u ≤ 50) := fun h => by rw [inU.2 h] at hu; cases hu
    have H1 := Lib.hid (show rdT ps u = ⟨#[]⟩ by unfold rdT; rw [if_neg hn])
    have H2 := Lib.hid (show rdC ps u = 2 by unfold rdC; rw [if_neg hn])
    have HUU := Lib.hid hu
    clear h hN hS hu hn
    go_enter Tryd.func14, Tryd.ntmps14
    go_wp2_with (go_at_call 37; refine (within_any _ _ _ _ _ (ints_one_at _ _ _ (by simp))).mono ?_; rintro e w3 ⟨rfl, rfl⟩; rw [HUU.out])
    go_ret2
    exact sc_is H1.out.symm H2.out.symm (by go_grown)
  · have hn := inU.1 hu
    have HUU := Lib.hid hu
    have HSP := Lib.hid (fun w' (hb : Below w.heap.size w w') => spelling_any v ps u w' hn hl (h.below hb))
    have HNO := Lib.hid (fun ht => rd_no (ps := ps) hn ht)
    have HYE := Lib.hid (fun o ht => rd_yes (ps := ps) (o := o) hn ht)
    have hsl := splE_len ps u
    have hcut : cutS 32 ⟨(splE ps u).toArray⟩ = (cutAt 32 (splE ps u)).map fun l => ⟨l.toArray⟩ := by unfold cutS; simp
    have HTX := Lib.hid (show txtO (splE ps u) = if (cutAt 32 (splE ps u)).length ≤ 12 then lets (cutAt 32 (splE ps u)) else none from rfl)
    have HCS := Lib.hid (fun w (hL : LenAtR w) => splitR_any ⟨(splE ps u).toArray⟩ 32 w (by rw [size_b]; omega) hL)
    rw [hcut] at HCS
    have hpos : 0 < (cutAt 32 (splE ps u)).length := List.length_pos_iff.2 (cutAt_ne 32 _)
    have HLN := Lib.hid hN
    have HSG := Lib.hid hS
    obtain ⟨L, hL⟩ : ∃ L, L = cutAt 32 (splE ps u) := ⟨_, rfl⟩
    rw [← hL] at HTX HCS hpos
    obtain ⟨S, hSS⟩ : ∃ S : ByteArray, S = ⟨(splE ps u).toArray⟩ := ⟨_, rfl⟩
    rw [← hSS] at HSP HCS
    have hll : L.length ≤ 4194304 := by
      have := cutAt_len 32 (splE ps u)
      have h2 := List.count_le_length (a := (32 : UInt8)) (l := splE ps u)
      rw [hL]; omega
    have HW0 := Lib.hid (show Below w.heap.size w (w.alloc (.cells #[.int .i64 u] 2)) from (Below.refl _ _).alloc (Nat.le_refl _) _)
    have HSP2 := Lib.hid (HSP.out _ HW0.out)
    clear h hN hS hu hcut hL hSS hsl HSP
    go_enter Tryd.func14, Tryd.ntmps14
    go_wp2_with (first
      | (go_at_call 37; refine (within_any _ _ _ _ _ (ints_one_at _ _ _ (by simp))).mono ?_; rintro e w3 ⟨rfl, rfl⟩; rw [HUU.out])
      | (go_at_call 38; refine HSP2.out.mono ?_; rintro e w1 ⟨rfl, hb⟩; refine Hid.out ?_))
    refine Lib.hid ?_
    have HB := Lib.hid (Below.next HW0.out hb)
    have HCS2 := Lib.hid (HCS.out w1 (HLN.out.below HB.out))
    clear hb
    go_wp2_with (go_at_call 25; refine HCS2.out.mono ?_; rintro e w2 ⟨v2, rfl, ho, hb⟩; refine Hid.out ?_)
    refine Lib.hid ?_
    rw [strV_len, List.length_map] at ho
    obtain ⟨g, cap, rfl, _, _⟩ := ho.form hpos
    have HO := Lib.hid ho
    have HB2 := Lib.hid (Below.next HB.out hb)
    clear ho hb
    by_cases h12 : L.length ≤ 12
    · have hl12 : ¬ (12 : Int) < (L.length : Int) := by omega
      rw [if_pos h12] at HTX
      go_wp2_with (fail)
      have HSG2 := Lib.hid (HSG.out.below HB2.out)
      go_loopw [7, 9, 10, 11, 25] (fun t p a b i wr => ∃ (k : Nat) (out : List UInt8), k ≤ L.length ∧ i = .int .i64 k ∧ t = .string ⟨out.toArray⟩ ∧ lets (L.take k) = some out ∧ Below w2.heap.size w2 wr) (fun _ _ _ _ i _ => L.length - (intOf i).toNat)
      case atStart => exact ⟨0, [], Nat.zero_le _, rfl, rfl, rfl, Below.refl _ _⟩
      case round =>
        obtain ⟨k, out, hk, rfl, rfl, hle, hbel⟩ := hrel
        have HLE := Lib.hid hle
        have HBE := Lib.hid hbel
        have hol : out.length = k := by
          have h := lets_len (L.take k) [] out hle
          rw [List.length_take] at h
          simp at h; omega
        clear hle
        by_cases hlt : k < L.length
        · have c0 : wr.cell? ⟨g, k, none⟩ = some (.string ⟨(L.getD k []).toArray⟩) := (World.ownsRow.cellAt (own_below HO.out hbel) k (by omega)).trans (by simp [strV, hlt])
          have hkn : (k : Int) < (L.length : Int) := by omega
          have HTK := Lib.hid (show lets (L.take (k + 1)) = letF (some out) (L.getD k []) by
            rw [List.take_succ_eq_append_getElem hlt, lets_snoc, HLE.out]; simp [hlt])
          have HAL := Lib.hid (show lets (L.take (k + 1)) = none → lets L = none from fun h => by
            have h2 := lets_none (L.take (k + 1)) (L.drop (k + 1)) h
            rwa [List.take_append_drop] at h2)
          have HLT := Lib.hid hlt
          obtain ⟨c, hc⟩ : ∃ c, c = L.getD k [] := ⟨_, rfl⟩
          rw [← hc] at c0 HTK
          have HFL := Lib.hid (findV_L c)
          have hbl : (⟨c.toArray⟩ : ByteArray).toList = c := by rw [ByteArray.toList_eq]
          obtain ⟨cb, hcb⟩ : ∃ cb : ByteArray, cb = ⟨c.toArray⟩ := ⟨_, rfl⟩
          obtain ⟨ob, hob⟩ : ∃ ob : ByteArray, ob = ⟨out.toArray⟩ := ⟨_, rfl⟩
          have hobs : ob.size = k := by rw [hob, size_b, hol]
          rw [← hcb] at c0 HFL hbl
          rw [← hob]
          have HOB := Lib.hid hob
          have HSG3 := Lib.hid (HSG2.out.below hbel)
          clear hc hbel hlt hcb hob
          by_cases h47 : c = [47]
          · have hq : (cb.toList == [47]) = true := by rw [hbl, h47]; rfl
            have HT2 := Lib.hid (show lets (L.take (k + 1)) = some (out ++ [32]) by rw [HTK.out, h47]; rfl)
            have q1 := fun w => run_string_add_sum (P := Tryd.prog) (w := w) ob ⟨#[32]⟩ (by rw [hobs]; have : (⟨#[32]⟩ : ByteArray).size = 1 := rfl; omega)
            clear HTK HAL HFL hbl h47 hobs hol
            go_wp2_with (fail)
            go_roundw
            case rel => exact ⟨k + 1, out ++ [32], by have := HLT.out; omega, by go_num, by rw [HOB.out]; exact congrArg Value.string (cat_b out [32]), HT2.out, HBE.out⟩
            case measure => have := HLT.out; simp [intOf]; omega
          · have hq : (cb.toList == [47]) = false := by rw [hbl, beq_eq_false_iff_ne]; exact h47
            have HTL := Lib.hid (show lets (L.take (k + 1)) = (findL c).map (out ++ ·) by rw [HTK.out]; unfold letF let1; rw [if_neg h47]; rfl)
            have HLO := Lib.hid (letterof_any cb wr HSG3.out)
            cases hf : findL c with
            | none =>
              have hv := HFL.out.2 hf
              rw [hv.1, hv.2] at HLO
              have HF := Lib.hid (HNO.out (by rw [HTX.out]; exact HAL.out (by rw [HTL.out, hf]; rfl)))
              clear HTK HAL HFL hbl h47 hobs hol hf hv HTL
              go_wp2_with (go_at_call 19; refine HLO.out.mono ?_; rintro e w4 ⟨rfl, hb⟩; refine Hid.out ?_)
              refine Lib.hid ?_
              have HB5 := Lib.hid (HB2.out.trans ((HBE.out.trans (hb.mono HBE.out.size)).mono HB2.out.size))
              clear hb
              go_wp2_with (fail)
              go_ret2
              exact sc_is HF.out.1.symm HF.out.2.symm HB5.out
            | some o =>
              have hv := HFL.out.1 o hf
              rw [hv.1, hv.2] at HLO
              have HT2 := Lib.hid (show lets (L.take (k + 1)) = some (out ++ o) by rw [HTL.out, hf]; rfl)
              obtain ⟨y, hy, _, _⟩ := findL_cap hf
              have hos : (⟨o.toArray⟩ : ByteArray).size = 1 := by rw [size_b, hy]; rfl
              obtain ⟨oo, hoo⟩ : ∃ oo : ByteArray, oo = ⟨o.toArray⟩ := ⟨_, rfl⟩
              rw [← hoo] at HLO hos
              have HOO := Lib.hid hoo
              have q1 := fun w => run_string_add_sum (P := Tryd.prog) (w := w) ob oo (by rw [hobs, hos]; omega)
              clear HTK HAL HFL hbl h47 hobs hol hf hv HTL hy hoo hos
              go_wp2_with (go_at_call 19; refine HLO.out.mono ?_; rintro e w4 ⟨rfl, hb⟩; refine Hid.out ?_)
              refine Lib.hid ?_
              have HB5 := Lib.hid (HBE.out.trans (hb.mono HBE.out.size))
              clear hb
              go_wp2_with (fail)
              go_roundw
              case rel => exact ⟨k + 1, out ++ o, by have := HLT.out; omega, by go_num, by rw [HOB.out, HOO.out]; exact congrArg Value.string (cat_b out o), HT2.out, HB5.out⟩
              case measure => have := HLT.out; simp [intOf]; omega
        · obtain rfl : k = L.length := by omega
          have HF := Lib.hid (HYE.out out (by rw [HTX.out]; have h := HLE.out; rwa [List.take_of_length_le (Nat.le_refl _)] at h))
          have HB5 := Lib.hid (HB2.out.trans (hbel.mono HB2.out.size))
          clear hbel hol
          go_wp2_with (fail)
          go_ret2
          exact sc_is HF.out.1.symm HF.out.2.symm HB5.out
    · have hl12 : (12 : Int) < (L.length : Int) := by omega
      rw [if_neg h12] at HTX
      have HF := Lib.hid (HNO.out HTX.out)
      go_wp2_with (fail)
      go_ret2
      exact sc_is HF.out.1.symm HF.out.2.symm HB2.out
end Go.Proofs.YtgnajfdcbpfdjaaDoor
