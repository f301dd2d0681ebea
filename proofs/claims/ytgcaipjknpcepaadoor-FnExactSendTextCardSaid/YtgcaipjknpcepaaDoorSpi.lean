/- The spelling of a text: the program's function. -/
import Derived.Test.YtgcaipjknpcepaaDoorSpl
import Derived.Shelf.Strings.OnBuilder
namespace Go.Proofs.YtgcaipjknpcepaaDoor
open Go.ChangeShapes Go.WideShapes Go.ChangeAt Go.RowKit Pm

theorem signs_one (x : UInt8) (r : Nat) (hr : r < 26) (hx : x.toNat = 65 + r) : signsV ⟨#[x]⟩ = morseS r := by
  have : capN ⟨#[x]⟩ = some r := by
    show (if 65 ≤ x.toNat ∧ x.toNat ≤ 90 then some (x.toNat - 65) else none) = some r
    rw [if_pos (by omega), hx, Nat.add_sub_cancel_left]
  unfold signsV; rw [this]
theorem chS_at (s : ByteArray) (k : Nat) (h : k < s.size) : (strV (chS s))[k]? = some (.string ⟨#[s[k]]⟩) := by
  have hl : k < s.data.toList.length := by simpa using h
  simp only [strV, chS, List.getElem?_map, List.getElem?_eq_getElem hl, Option.map_some, byte_at s k h]
theorem parts_take (s : ByteArray) (k : Nat) (h : k < s.size) : (s.data.toList.take (k + 1)).map partS = (s.data.toList.take k).map partS ++ [partS s[k]] := by
  have hl : k < s.data.toList.length := by simpa using h
  rw [List.take_succ_eq_append_getElem hl, List.map_append, byte_at s k h]; rfl
set_option maxRecDepth 100000 in
set_option maxHeartbeats 2000000 in
theorem spell_any (s : ByteArray) (w : World) (hn : LenAt w) (hsg : SignsAt w) :
    Calls Tryd.prog 31 #[.string s] w fun e w' => e = .returned (.tuple #[.string (splV s), .int .i64 (splC s)]) ∧ Below w.heap.size w w' := by
  have HT := Lib.hid (cans_any s w hn)
  cases hb : sntB s
  · have HV := Lib.hid (show splV s = ⟨#[]⟩ by unfold splV; rw [hb]; rfl)
    have HC := Lib.hid (show splC s = 1 by unfold splC; rw [hb]; rfl)
    rw [hb] at HT
    clear hb hn hsg
    go_enter Tryd.func31, Tryd.ntmps31
    go_wp2_with (go_at_call 54; refine HT.out.mono ?_; rintro e w1 ⟨rfl, hb⟩; have HB := Lib.hid hb; clear hb)
    go_ret2
    exact ⟨retSI HV.out.symm HC.out.symm, HB.out⟩
  · have hS := sent_out hb
    have HV := Lib.hid (show splV s = ⟨(spL s.data.toList).toArray⟩ by unfold splV; rw [hb]; rfl)
    have HC := Lib.hid (show splC s = 0 by unfold splC; rw [hb]; rfl)
    have hs12 := hS.most
    have hs1 := hS.pos
    have HS := Lib.hid hS
    have HCH := Lib.hid (fun w => chars_any s w (by omega) (fun j b hj => by
      obtain ⟨hl, rfl⟩ := List.getElem?_eq_some_iff.1 hj
      rw [byte_at s j (by simpa using hl)]
      rcases hS.byte j (by simpa using hl) with q | q
      · rw [q]; decide
      · obtain ⟨r, hr, e⟩ := cap_num q
        omega))
    have HSG := Lib.hid hsg
    rw [hb] at HT
    clear hb hS hn hsg
    go_enter Tryd.func31, Tryd.ntmps31
    go_wp2_with (go_at_call 54; refine HT.out.mono ?_; rintro e w1 ⟨rfl, hb⟩; refine Hid.out ?_)
    refine Lib.hid ?_
    have HB := Lib.hid hb
    have HSG1 := Lib.hid (HSG.out.below hb)
    clear hb
    go_wp2_with (go_at_call 57; refine (HCH.out _).mono ?_; rintro e w2 ⟨v2, rfl, ho, hb⟩; refine Hid.out ?_)
    refine Lib.hid ?_
    have hcl : (strV (chS s)).length = s.size := by simp [strV, chS]
    rw [hcl] at ho
    obtain ⟨g, cap, rfl, _, _⟩ := ho.form (by omega)
    have HO := Lib.hid ho
    have HB2 := Lib.hid (Below.next HB.out hb)
    have HSG2 := Lib.hid (HSG1.out.below hb)
    clear ho hb hcl
    go_wp2_with (fail)
    go_loopw [4, 13] (fun o i wr => ∃ (k : Nat), k ≤ s.size ∧ i = .int .i64 k ∧ OwnS wr w2.heap.size o ((s.data.toList.take k).map partS) ∧ Below w2.heap.size w2 wr) (fun _ i _ => s.size - (intOf i).toNat)
    case atStart => exact ⟨0, Nat.zero_le _, rfl, OwnS.none _ _, Below.refl _ _⟩
    case round =>
      obtain ⟨k, hk, rfl, hown, hbel⟩ := hrel
      by_cases hlt : k < s.size
      · have hkn : (k : Int) < (s.size : Int) := by omega
        have hcell := (own_below HO.out hbel).cellAt k (by omega)
        rw [chS_at s k hlt] at hcell
        have hbyte := HS.out.byte k hlt
        have HPT := Lib.hid (parts_take s k hlt)
        have hpl : ((s.data.toList.take k).map partS).length ≤ 12 := by rw [List.length_map, List.length_take]; omega
        have HSGk := Lib.hid (HSG2.out.below hbel)
        obtain ⟨L, hL⟩ : ∃ L, L = (s.data.toList.take k).map partS := ⟨_, rfl⟩
        rw [← hL] at HPT hpl hown
        obtain ⟨x, hxx⟩ : ∃ x, x = s[k] := ⟨_, rfl⟩
        rw [← hxx] at hcell hbyte HPT
        have HOW := Lib.hid hown
        have HBK := Lib.hid hbel
        have hxl : (⟨#[x]⟩ : ByteArray).toList = [x] := by rw [ByteArray.toList_eq]
        clear hL hxx hown hbel
        by_cases hx : x = 32
        · have hxb : (x == 32) = true := by rw [hx]; rfl
          have HP := Lib.hid (show partS x = ⟨#[47]⟩ by rw [hx]; rfl)
          clear hbyte hx hxl
          go_wp2_with (at_builtin; (refine wpList_app_s rfl _ _ w2.heap.size _ L ⟨#[47]⟩ w2 _ _ HOW.out HBK.out (Nat.le_refl _) (by omega) rfl rfl _ rfl rfl ?_))
          intro v5 w5 h5 hb5
          have HO5 := Lib.hid h5
          have HB5 := Lib.hid hb5
          clear h5 hb5
          go_wp2
          refine ⟨⟨k + 1, by omega, rfl, by rw [HPT.out, HP.out]; exact HO5.out, HB5.out⟩, ?_⟩
          show s.size - ((k : Int) + 1).toNat < s.size - ((k : Int)).toNat
          omega
        · have hxb : (x == 32) = false := beq_eq_false_iff_ne.2 hx
          obtain ⟨r, hr, hbr⟩ := cap_num (hbyte.resolve_left hx)
          have HP := Lib.hid (show partS x = morseS r by unfold partS partB morseS; rw [if_neg hx, hbr, Nat.add_sub_cancel_left])
          have HSI := Lib.hid (fun w h => signs_any ⟨#[x]⟩ w h)
          rw [signs_one x r hr hbr] at HSI
          obtain ⟨m, hm⟩ : ∃ m, m = morseS r := ⟨_, rfl⟩
          rw [← hm] at HSI HP
          clear hbyte hx hxl hm hbr
          go_wp2_with (first
            | (go_at_call 41; refine (HSI.out _ HSGk.out).mono ?_; rintro e w4 ⟨rfl, hb⟩; have HOW4 := Lib.hid (HOW.out.below hb); have HBK4 := Lib.hid (Below.next HBK.out hb); clear hb)
            | (at_builtin; (refine wpList_app_s rfl _ _ w2.heap.size _ L m w2 _ _ HOW4.out HBK4.out (Nat.le_refl _) (by omega) rfl rfl _ rfl rfl ?_)))
          intro v5 w5 h5 hb5
          have HO5 := Lib.hid h5
          have HB5 := Lib.hid hb5
          clear h5 hb5
          go_wp2
          refine ⟨⟨k + 1, by omega, rfl, by rw [HPT.out, HP.out]; exact HO5.out, HB5.out⟩, ?_⟩
          show s.size - ((k : Int) + 1).toNat < s.size - ((k : Int)).toNat
          omega
      · have hkn : ¬ (k : Int) < (s.size : Int) := by omega
        rw [List.take_of_length_le (by simp; omega)] at hown
        obtain ⟨L, hL⟩ : ∃ L, L = s.data.toList.map partS := ⟨_, rfl⟩
        have hLl : L.length = s.size := by rw [hL]; simp
        have hj : Lib.join (L.map (·.data.toList)) (⟨#[32]⟩ : ByteArray).data.toList = spL s.data.toList := by
          rw [← spL_join, hL, List.map_map]; rfl
        rw [← hL] at hown
        rcases hown.form (by omega) with ⟨g5, cap5, rfl, hg5, hc5⟩
        have hcs : ∀ (j : Nat) x, L[j]? = some x → wr.cell? ⟨g5, 0 + j, none⟩ = some (.string x) := by
          intro j x hx
          have hlj := (List.getElem?_eq_some_iff.1 hx).1
          have := World.ownsRow.cellAt hown j (by omega)
          rw [Nat.zero_add, this]
          simp only [strV, List.getElem?_map, hx, Option.map_some]
        have hsz : g5 < wr.heap.size := World.block_lt_of_cell? _ _ (hcs 0 L[0] (List.getElem?_eq_getElem (by omega)))
        have hcapL : L.length ≤ cap5 := by
          rcases hown.2 with ⟨e, _⟩ | ⟨g6, cap6, cur, e, _, _, h6, _⟩
          · cases e
          · cases e; exact h6
        have hJ := Any.strings_Join Tryd.lays156 Tryd.Builder_Extra_156 g5 0 cap5 L ⟨#[32]⟩ wr hcs hsz (by omega) hcapL (by
          rw [hj]
          have := spL_len (l := s.data.toList) (fun x hx => by
            obtain ⟨i, hi, rfl⟩ := List.getElem_of_mem hx
            rw [byte_at s i (by simpa using hi)]
            exact HS.out.byte i (by simpa using hi))
          rw [sz_toList] at this
          omega)
        rw [hj, hLl] at hJ
        have HJ := Lib.hid hJ
        have HBR := Lib.hid (HB2.out.trans (hbel.mono HB2.out.size))
        obtain ⟨t, ht⟩ : ∃ t : ByteArray, t = ⟨(spL s.data.toList).toArray⟩ := ⟨_, rfl⟩
        rw [← ht] at HJ HV
        clear hJ hj hcs hsz hown hbel ht hcapL hL
        rw [hLl]
        clear hLl
        go_wp2_with (go_at_call 63; refine HJ.out.mono ?_; rintro e w6 ⟨rfl, hb⟩; have HB6 := Lib.hid (Below.next HBR.out hb); clear hb)
        go_ret2
        exact ⟨retSI HV.out.symm HC.out.symm, HB6.out⟩
end Go.Proofs.YtgcaipjknpcepaaDoor
