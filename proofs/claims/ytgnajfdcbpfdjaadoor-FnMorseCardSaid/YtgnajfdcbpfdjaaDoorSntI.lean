/- Texts that can be sent: the program's test. -/
import Derived.Test.YtgnajfdcbpfdjaaDoorSntS
import Derived.Test.YtgnajfdcbpfdjaaDoorReadX
import Derived.Test.YtgnajfdcbpfdjaaDoorMorX
namespace Go.Proofs.YtgnajfdcbpfdjaaDoor
open Go.ChangeShapes Go.WideShapes Go.ChangeAt Go.RowKit Pm

def gWord (p : ByteArray) : Bool := goodW p.data.toList
theorem all_takeW {α : Type} {f : α → Bool} {L : List α} {k : Nat} (h : k < L.length) (ha : (L.take k).all f = true) : (L.take (k + 1)).all f = f L[k] := by
  rw [List.take_succ_eq_append_getElem h, List.all_append, ha]; simp
theorem all_badW {α : Type} {f : α → Bool} {L : List α} {k : Nat} (h : k < L.length) (hf : f L[k] = false) : L.all f = false := by
  rw [List.all_eq_false]
  exact ⟨L[k], List.getElem_mem h, by simp [hf]⟩
theorem words_ok (s : ByteArray) : (cutS 32 s).all gWord = okF true s.data.toList := by
  rw [← (cut_ok s.data.toList).1]
  unfold cutS
  rw [List.all_map]
  rfl
theorem gWord_empty {p : ByteArray} (h : p.toList.isEmpty = true) : gWord p = false := by
  unfold gWord goodW
  rw [ByteArray.toList_eq] at h
  rw [h]; rfl
theorem gWord_bad {p : ByteArray} {q : Nat} (h : q < p.size) (hb : capB (p[q]) = false) : gWord p = false := by
  unfold gWord goodW
  rw [all_badW (k := q) (by simpa using h) (by rw [byte_at p q h]; exact hb), Bool.and_false]
theorem gWord_good {p : ByteArray} (h : p.toList.isEmpty = false) (ha : p.data.toList.all capB = true) : gWord p = true := by
  unfold gWord goodW
  rw [ByteArray.toList_eq] at h
  rw [h, ha]; rfl
theorem in_cap (b : UInt8) : inB 65 90 [(b.toNat : Int)] = capB b := by
  unfold capB
  simp only [inB, List.all_cons, List.all_nil, Bool.and_true]
  rw [Bool.eq_iff_iff]
  simp only [Bool.and_eq_true, decide_eq_true_eq]
  omega
set_option maxRecDepth 100000 in
set_option maxHeartbeats 2000000 in
theorem cans_any (s : ByteArray) (w : World) (hL : LenAt w) :
    Calls Tryd.prog 47 #[.string s] w fun e w' => e = .returned (.bool (sntB s)) ∧ Below w.heap.size w w' := by
  by_cases h12 : s.size ≤ 12
  · have HSB := Lib.hid (show sntB s = (cutS 32 s).all gWord by unfold sntB; rw [words_ok, decide_eq_true h12, Bool.and_true])
    have h12i : ¬ (12 : Int) < (s.size : Int) := by omega
    have HSP := Lib.hid (split_any s 32 w (by omega) hL)
    have hcl := cutS_le 32 s
    have HPT := Lib.hid (cutS_part 32 s)
    have hpos : 0 < (cutS 32 s).length := by rw [cutS_len]; omega
    obtain ⟨ps, hps⟩ : ∃ ps, ps = cutS 32 s := ⟨_, rfl⟩
    rw [← hps] at HSP HSB hpos hcl HPT
    have hps1 : ps.length ≤ 13 := by omega
    clear hL hps hcl h12
    go_enter Tryd.func47, Tryd.ntmps47
    go_wp2_with (go_at_call 25; refine HSP.out.mono ?_; rintro e w1 ⟨v1, rfl, ho1, hb1⟩; refine Hid.out ?_)
    refine Lib.hid ?_
    rw [strV_len] at ho1
    obtain ⟨g, cap, rfl, _, _⟩ := ho1.form hpos
    have HO1 := Lib.hid ho1
    have HB1 := Lib.hid hb1
    clear ho1 hb1
    go_wp2_with (fail)
    go_loopw [12] (fun i wr => ∃ (k : Nat), k ≤ ps.length ∧ i = .int .i64 k ∧ (ps.take k).all gWord = true ∧ Below w1.heap.size w1 wr) (fun i _ => ps.length - (intOf i).toNat)
    case atStart => exact ⟨0, Nat.zero_le _, rfl, rfl, Below.refl _ _⟩
    case round =>
      obtain ⟨k, hk, rfl, hall, hbel⟩ := hrel
      by_cases hlt : k < ps.length
      · have hkn : (k : Int) < (ps.length : Int) := by omega
        have hcell := (own_below HO1.out hbel).cellAt k (by omega)
        rw [show (strV ps)[k]? = some (.string ps[k]) by simp [strV, hlt]] at hcell
        have HAT := Lib.hid (all_takeW hlt hall)
        have HBAD := Lib.hid (fun h => all_badW (f := gWord) hlt h)
        have hsz := HPT.out _ (List.getElem_mem hlt)
        have HB := Lib.hid hbel
        obtain ⟨p, hp⟩ : ∃ p, p = ps[k] := ⟨_, rfl⟩
        rw [← hp] at hcell HAT HBAD hsz
        clear hp hbel hall
        cases hpe : p.toList.isEmpty
        · have HPE := Lib.hid hpe
          go_wp2_with (fail)
          go_loopw [20] (fun i wr => ∃ (q : Nat), q ≤ p.size ∧ i = .int .i64 q ∧ (p.data.toList.take q).all capB = true ∧ Below w1.heap.size w1 wr) (fun i _ => p.size - (intOf i).toNat)
          case atStart => exact ⟨0, Nat.zero_le _, rfl, rfl, HB.out⟩
          case round =>
            obtain ⟨q, hq, rfl, hqa, hbel⟩ := hrel
            by_cases hql : q < p.size
            · have hqn : (q : Int) < (p.size : Int) := by omega
              have hal := all_takeW (f := capB) (L := p.data.toList) (k := q) (by simpa using hql) hqa
              rw [byte_at p q hql] at hal
              have HAL := Lib.hid hal
              have HGB := Lib.hid (fun h => gWord_bad hql h)
              have HB2 := Lib.hid hbel
              have H1 := Lib.hid (ints_one wr .u8 ((p[q]).toNat : Int) 5)
              have hin := in_cap (p[q])
              clear hal hqa hbel
              cases hc : capB (p[q])
              · rw [hc] at hin
                have HZ := Lib.hid (show sntB s = false by rw [HSB.out]; exact HBAD.out (HGB.out hc))
                clear hc
                go_wp2_with (go_at_call 69; refine (within_byte _ _ _ _ _ H1.out).mono ?_; rintro e w4 ⟨rfl, rfl⟩)
                go_ret
                exact ⟨retBs HZ.out.symm, HB1.out.trans ((HB2.out.alloc HB2.out.size _).mono HB1.out.size)⟩
              · rw [hc] at hin
                have HC := Lib.hid hc
                clear hc
                go_wp2_with (go_at_call 69; refine (within_byte _ _ _ _ _ H1.out).mono ?_; rintro e w4 ⟨rfl, rfl⟩)
                refine ⟨⟨q + 1, by omega, rfl, by rw [HAL.out]; exact HC.out, HB2.out.alloc HB2.out.size _⟩, ?_⟩
                show p.size - ((q : Int) + 1).toNat < p.size - ((q : Int)).toNat
                omega
            · have hqn : ¬ (q : Int) < (p.size : Int) := by omega
              have HG := Lib.hid (gWord_good HPE.out (by rw [List.take_of_length_le (by simp; omega)] at hqa; exact hqa))
              have HB2 := Lib.hid hbel
              clear hqa hbel
              go_wp2_with (fail)
              refine ⟨⟨k + 1, by omega, rfl, by rw [HAT.out]; exact HG.out, HB2.out⟩, ?_⟩
              show ps.length - ((k : Int) + 1).toNat < ps.length - ((k : Int)).toNat
              omega
        · have HZ := Lib.hid (show sntB s = false by rw [HSB.out]; exact HBAD.out (gWord_empty hpe))
          go_wp2_with (fail)
          go_ret
          exact ⟨retBs HZ.out.symm, HB1.out.trans (HB.out.mono HB1.out.size)⟩
      · have hkn : ¬ (k : Int) < (ps.length : Int) := by omega
        have HZ := Lib.hid (show sntB s = true by rw [List.take_of_length_le (by omega)] at hall; rw [HSB.out]; exact hall)
        go_wp2_with (fail)
        go_ret
        exact ⟨retBs HZ.out.symm, HB1.out.trans (hbel.mono HB1.out.size)⟩
  · have h12i : (12 : Int) < (s.size : Int) := by omega
    have HZ := Lib.hid (show sntB s = false by unfold sntB; rw [decide_eq_false h12, Bool.and_false])
    clear h12 hL
    go_enter Tryd.func47, Tryd.ntmps47
    go_wp2_with (fail)
    go_ret
    exact ⟨retBs HZ.out.symm, Below.refl _ _⟩
end Go.Proofs.YtgnajfdcbpfdjaaDoor
