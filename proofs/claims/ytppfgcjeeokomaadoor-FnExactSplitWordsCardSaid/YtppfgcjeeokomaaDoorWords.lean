/- The words of a text: the model's and the program's. -/
import Derived.Test.YtppfgcjeeokomaaDoorText
namespace Go.Proofs.YtppfgcjeeokomaaDoor
open Go.ChangeShapes Go.WideShapes Go.ChangeAt Go.RowKit Pm

/-- Does a piece hold something? -/
def nonE (p : ByteArray) : Bool := !(p.data.toList == [])
/-- The words of a text. -/
def wordsS (s : ByteArray) : List ByteArray := (cutS 32 s).filter nonE
theorem words_le (s : ByteArray) : (wordsS s).length ≤ s.size + 1 := Nat.le_trans (List.length_filter_le _ _) (cutS_le 32 s)
theorem nonE_no {p : ByteArray} (h : p.data.toList = []) : nonE p = false ∧ (p.toList == ([] : List UInt8)) = true := by
  constructor
  · unfold nonE; rw [h]; rfl
  · rw [beq_iff_eq, ByteArray.toList_eq]; exact h
theorem nonE_yes {p : ByteArray} (h : p.data.toList ≠ []) : nonE p = true ∧ (p.toList == ([] : List UInt8)) = false := by
  constructor
  · unfold nonE; simpa using h
  · rw [beq_eq_false_iff_ne, ByteArray.toList_eq]; exact h
theorem take_filter (f : ByteArray → Bool) (l : List ByteArray) (k : Nat) (hk : k < l.length) : (l.take (k + 1)).filter f = (l.take k).filter f ++ (if f l[k] = true then [l[k]] else []) := by
  rw [List.take_succ_eq_append_getElem hk, List.filter_append]
  congr 1
  rw [List.filter_cons, List.filter_nil]
theorem filter_take_le (f : ByteArray → Bool) (l : List ByteArray) (k : Nat) : ((l.take k).filter f).length ≤ l.length :=
  Nat.le_trans (List.length_filter_le _ _) (by rw [List.length_take]; omega)

/-- The words' contract. -/
def WR (ps : List ByteArray) (w : World) (e : Ending) (w' : World) : Prop :=
  ∃ v, e = .returned v ∧ w'.ownsRow w.heap.size 9 1 v ps.length (strV ps) ∧ Below w.heap.size w w'

set_option maxRecDepth 100000 in
theorem swords_any (s : ByteArray) (w : World) (hs : s.size ≤ 1048576) :
    Calls Tryd.prog 26 #[.string s] w (WR (wordsS s) w) := by
  have HSP := Lib.hid (show Calls Tryd.prog 52 #[.string s, .int .u8 32] w (OwnRet 9 (strV (cutS 32 s)) w) from ssplit_any s 32 w hs)
  obtain ⟨i0, hi, hz0, hz1, hz2⟩ := info_parts infoStr
  have hpos : 0 < (cutS 32 s).length := by rw [cutS_len]; omega
  have hlen := cutS_le 32 s
  have HW := Lib.hid (show wordsS s = (cutS 32 s).filter nonE from rfl)
  obtain ⟨ps, hps⟩ : ∃ ps, ps = cutS 32 s := ⟨_, rfl⟩
  rw [← hps] at HSP HW hpos hlen
  clear hps
  go_enter Tryd.func26, Tryd.ntmps26
  go_wp2_with (go_at_call 52; refine HSP.out.mono ?_; rintro e w1 ⟨v1, rfl, ho1, hb1⟩; refine Hid.out ?_)
  refine Lib.hid ?_
  rw [strV_len] at ho1
  obtain ⟨g, cap, rfl, _, _⟩ := ho1.form hpos
  have HO1 := Lib.hid ho1
  have HB1 := Lib.hid hb1
  clear ho1 hb1
  go_wp2_with (fail)
  go_loopw [4, 5] (fun v m wr => ∃ (k : Nat) (qs : List ByteArray), m = .int .i64 k ∧ k ≤ ps.length ∧ qs = (ps.take k).filter nonE ∧ wr.ownsRow w1.heap.size 9 1 v qs.length (strV qs) ∧ Below w1.heap.size w1 wr) (fun _ m _ => ps.length - (intOf m).toNat)
  case atStart => exact ⟨0, [], rfl, Nat.zero_le _, rfl, World.ownsRow_lit w1 #[] 0 (Nat.le_refl _) (by unfold maxLen; omega) rfl, (Below.refl _ _).alloc (Nat.le_refl _) _⟩
  case round =>
    obtain ⟨k, qs, rfl, hk, hqs, hown, hbel⟩ := hrel
    have HB := Lib.hid hbel
    clear hbel
    by_cases hlt : k < ps.length
    · have hcell := (own_below HO1.out HB.out).cellAt k (by omega)
      rw [show (strV ps)[k]? = some (.string ps[k]) by simp [strV, hlt]] at hcell
      have hq := take_filter nonE ps k hlt
      have hql := filter_take_le nonE ps k
      rw [← hqs] at hq hql
      have HQL := Lib.hid hql
      obtain ⟨p, hp⟩ : ∃ p, p = ps[k] := ⟨_, rfl⟩
      rw [← hp] at hcell hq
      clear hp hqs hql
      by_cases hp0 : p.data.toList = []
      · obtain ⟨hn, hc⟩ := nonE_no hp0
        rw [hn] at hq
        have HQ := Lib.hid (show qs = (ps.take (k + 1)).filter nonE by rw [hq]; simp)
        have HO := Lib.hid hown
        clear hq hn hp0 hown
        go_wp2
        go_roundw
        case rel => exact ⟨k + 1, qs, by go_num, by omega, HQ.out, HO.out, HB.out⟩
        case measure => simp [intOf]; omega
      · obtain ⟨hn, hc⟩ := nonE_yes hp0
        rw [hn, if_pos rfl] at hq
        have HQ := Lib.hid hq.symm
        clear hq hn hp0
        go_wp2_with (at_builtin; refine wpList_append_own _ rfl _ _ 40 rfl w1.heap.size 9 i0 (.string ⟨#[]⟩) 1 16 Tryd.underlying40 hi hz0 hz1 hz2 rfl (by decide) _ _ _ rfl (hown.alloc _) ⟨wr.heap.size, 0, none⟩ 1 1 [.string p] rfl rfl (app_cells _ _ _) (by intro u hu; simp at hu; subst hu; rfl) (by have := HQL.out; unfold maxLen; omega) (by have := HQL.out; omega) (by have := HB.out.size; simp; omega) ?_)
        intro v' w4 hown' hgrow _
        have hown2 := strrow_snoc hown'
        have hb2 := below_app HB.out (Nat.le_refl _) hown hgrow
        clear hown' hgrow hown
        have HO := Lib.hid hown2
        have HB2 := Lib.hid hb2
        clear hown2 hb2
        go_wp2
        go_roundw
        case rel => exact ⟨k + 1, _, by go_num, by omega, HQ.out, HO.out, HB2.out⟩
        case measure => simp [intOf]; omega
    · obtain rfl : k = ps.length := by omega
      rw [List.take_of_length_le (Nat.le_refl _), ← HW.out] at hqs
      rw [hqs] at hown
      have HO := Lib.hid hown
      clear hown
      go_wp2
      go_ret
      exact ⟨_, rfl, own_mono HO.out HB1.out.size, HB1.out.trans (HB.out.mono HB1.out.size)⟩

set_option maxRecDepth 100000 in
theorem words_any (s : ByteArray) (w : World) (hs : s.size ≤ 1048576) (hL : LenAt w) :
    Calls Tryd.prog 27 #[.string s] w (WR (wordsS s) w) := by
  have HSP := Lib.hid (split_any s 32 w hs hL)
  obtain ⟨i0, hi, hz0, hz1, hz2⟩ := info_parts infoStr
  have hpos : 0 < (cutS 32 s).length := by rw [cutS_len]; omega
  have hlen := cutS_le 32 s
  have HW := Lib.hid (show wordsS s = (cutS 32 s).filter nonE from rfl)
  obtain ⟨ps, hps⟩ : ∃ ps, ps = cutS 32 s := ⟨_, rfl⟩
  rw [← hps] at HSP HW hpos hlen
  clear hps hL
  go_enter Tryd.func27, Tryd.ntmps27
  go_wp2_with (go_at_call 45; refine HSP.out.mono ?_; rintro e w1 ⟨v1, rfl, ho1, hb1⟩; refine Hid.out ?_)
  refine Lib.hid ?_
  rw [strV_len] at ho1
  obtain ⟨g, cap, rfl, _, _⟩ := ho1.form hpos
  have HO1 := Lib.hid ho1
  have HB1 := Lib.hid hb1
  clear ho1 hb1
  go_wp2_with (fail)
  go_loopw [3, 9] (fun v m wr => ∃ (k : Nat) (qs : List ByteArray), m = .int .i64 k ∧ k ≤ ps.length ∧ qs = (ps.take k).filter nonE ∧ wr.ownsRow w1.heap.size 9 1 v qs.length (strV qs) ∧ Below w1.heap.size w1 wr) (fun _ m _ => ps.length - (intOf m).toNat)
  case atStart => exact ⟨0, [], rfl, Nat.zero_le _, rfl, own_none _ _ _, Below.refl _ _⟩
  case round =>
    obtain ⟨k, qs, rfl, hk, hqs, hown, hbel⟩ := hrel
    have HB := Lib.hid hbel
    clear hbel
    by_cases hlt : k < ps.length
    · have hcell := (own_below HO1.out HB.out).cellAt k (by omega)
      rw [show (strV ps)[k]? = some (.string ps[k]) by simp [strV, hlt]] at hcell
      have hq := take_filter nonE ps k hlt
      have hql := filter_take_le nonE ps k
      rw [← hqs] at hq hql
      have HQL := Lib.hid hql
      obtain ⟨p, hp⟩ : ∃ p, p = ps[k] := ⟨_, rfl⟩
      rw [← hp] at hcell hq
      clear hp hqs hql
      by_cases hp0 : p.data.toList = []
      · obtain ⟨hn, hc⟩ := nonE_no hp0
        rw [hn] at hq
        have HQ := Lib.hid (show qs = (ps.take (k + 1)).filter nonE by rw [hq]; simp)
        have HO := Lib.hid hown
        clear hq hn hp0 hown
        go_wp2
        go_roundw
        case rel => exact ⟨k + 1, qs, by go_num, by omega, HQ.out, HO.out, HB.out⟩
        case measure => simp [intOf]; omega
      · obtain ⟨hn, hc⟩ := nonE_yes hp0
        rw [hn, if_pos rfl] at hq
        have HQ := Lib.hid hq.symm
        clear hq hn hp0
        go_wp2_with (at_builtin; refine wpList_append_own _ rfl _ _ 40 rfl w1.heap.size 9 i0 (.string ⟨#[]⟩) 1 16 Tryd.underlying40 hi hz0 hz1 hz2 rfl (by decide) _ _ _ rfl (hown.alloc _) ⟨wr.heap.size, 0, none⟩ 1 1 [.string p] rfl rfl (app_cells _ _ _) (by intro u hu; simp at hu; subst hu; rfl) (by have := HQL.out; unfold maxLen; omega) (by have := HQL.out; omega) (by have := HB.out.size; simp; omega) ?_)
        intro v' w4 hown' hgrow _
        have hown2 := strrow_snoc hown'
        have hb2 := below_app HB.out (Nat.le_refl _) hown hgrow
        clear hown' hgrow hown
        have HO := Lib.hid hown2
        have HB2 := Lib.hid hb2
        clear hown2 hb2
        go_wp2
        go_roundw
        case rel => exact ⟨k + 1, _, by go_num, by omega, HQ.out, HO.out, HB2.out⟩
        case measure => simp [intOf]; omega
    · obtain rfl : k = ps.length := by omega
      rw [List.take_of_length_le (Nat.le_refl _), ← HW.out] at hqs
      rw [hqs] at hown
      have HO := Lib.hid hown
      clear hown
      go_wp2
      go_ret
      exact ⟨_, rfl, own_mono HO.out HB1.out.size, HB1.out.trans (HB.out.mono HB1.out.size)⟩
end Go.Proofs.YtppfgcjeeokomaaDoor
