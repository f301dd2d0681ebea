/- The text of phases: the program's. -/
import Derived.Test.YtgcaipjknpcepaaDoorPhtM
namespace Go.Proofs.YtgcaipjknpcepaaDoor
open Go.ChangeShapes Go.WideShapes Go.ChangeAt Go.RowKit Pm
theorem signcol_any (s : ByteArray) (w : World) :
    Calls Tryd.prog 70 #[.string s] w fun e w' => e = .returned (.string (sgnC s)) ∧ w = w' := by
  cases h : s.toList.isEmpty
  · have HV := Lib.hid (show sgnC s = s by unfold sgnC; rw [h]; rfl)
    go_enter Tryd.func70, Tryd.ntmps70
    go_wp2
    go_ret
    exact ⟨retS HV.out.symm, rfl⟩
  · have HV := Lib.hid (show sgnC s = ⟨#[45]⟩ by unfold sgnC; rw [h]; rfl)
    go_enter Tryd.func70, Tryd.ntmps70
    go_wp2
    go_ret
    exact ⟨retS HV.out.symm, rfl⟩
set_option maxRecDepth 100000 in
set_option maxHeartbeats 1000000 in
theorem phtext_at (b off c : Nat) (ps : List Ph) (w : World) (hm : ps.length ≤ 1048576) (hv : validP ps = true) (hP : PowAt w)
    (hc : ∀ i, i < ps.length → w.cell? ⟨b, off + i * 2, none⟩ = some (.string (ps.getD i ph0).1) ∧ w.cell? ⟨b, off + i * 2 + 1, none⟩ = some (.int .i64 (ps.getD i ph0).2)) :
    Calls Tryd.prog 36 #[.slice (some ⟨b, off, none⟩) ps.length c] w fun e w' => e = .returned (.string ⟨(phtJ ps).toArray⟩) ∧ Below w.heap.size w w' := by
  obtain ⟨i0, hi, hz0, hz1, hz2⟩ := info_parts infoStr
  have HV := Lib.hid (show Calls Tryd.prog 69 #[.slice (some ⟨b, off, none⟩) ps.length c] w fun e w' => e = .returned (.bool true) ∧ Below w.heap.size w w' by
    have h := val_any _ ps w hm ⟨some ⟨b, off, none⟩, c, rfl, rfl, .inr ⟨b, off, rfl, hc⟩⟩
    rwa [hv] at h)
  have HVP := Lib.hid (validP_out hv)
  have h40 := (validP_out hv).most
  have hpos := (validP_out hv).pos
  have HC := Lib.hid hc
  have HP := Lib.hid hP
  have hlen := phtJ_len ps.length ps rfl (validP_out hv).sz
  have HLEN := Lib.hid hlen
  clear hc hP hv hlen
  go_enter Tryd.func36, Tryd.ntmps36
  go_wp2_with (go_at_call 69; refine HV.out.mono ?_; rintro e w0 ⟨rfl, hb⟩; refine Hid.out ?_)
  refine Lib.hid ?_
  have HB0 := Lib.hid hb
  have HC := Lib.hid (fun i h => And.intro (cell_below (HC.out i h).1 hb) (cell_below (HC.out i h).2 hb))
  have HP := Lib.hid (HP.out.below hb)
  clear hb HV
  go_wp2_with (at_make; refine wpList_make_full _ rfl _ _ 58 rfl w0.heap.size 9 i0 (.string ⟨#[]⟩) 1 Tryd.underlying58 hi hz0 hz1 _ _ _ _ ps.length rfl rfl rfl rfl (by rw [hz2]; omega) (by unfold maxLen; omega) (Nat.le_refl _) ?_)
  intro w1 hown hg
  have hb : Below w0.heap.size w0 w1 := (Below.refl _ _).grown hg (Nat.le_refl _) (fun k hk => by cases hk)
  obtain ⟨xs0, hx0⟩ : ∃ xs0, xs0 = (madeCells #[Value.string ⟨#[]⟩] ps.length).toList := ⟨_, rfl⟩
  rw [← hx0] at hown
  have hl0 : xs0.length = ps.length := by have := hown.1; omega
  have HO := Lib.hid hown
  have HB := Lib.hid hb
  clear hown hg hb hx0
  go_wp2_with (fail)
  go_loopw [14] (fun i wr => ∃ (k : Nat) (xs : List Value), k ≤ ps.length ∧ i = .int .i64 k ∧ Upto xs k (ps.map fun p => Value.string (phS p)) ∧ wr.ownsRow w0.heap.size 9 1 (.slice (some ⟨w0.heap.size, 0, none⟩) ps.length ps.length) ps.length xs ∧ Below w0.heap.size w0 wr) (fun i _ => ps.length - (intOf i).toNat)
  case atStart => exact ⟨0, xs0, Nat.zero_le _, rfl, ⟨by simpa using hl0, fun j hj => by omega⟩, HO.out, HB.out⟩
  case round =>
    obtain ⟨k, xs, hk, rfl, hup, hown, hbel⟩ := hrel
    have HU := Lib.hid hup
    clear hup
    by_cases hlt : k < ps.length
    · have hkn : (k : Int) < (ps.length : Int) := by omega
      have c0 := cell_below (HC.out k hlt).1 hbel
      have c1 := cell_below (HC.out k hlt).2 hbel
      have hp := HVP.out.at k hlt
      have hln := HVP.out.len _ hp
      have hcol := col_size (HVP.out.col _ hp)
      have hst : (ps.map fun p => Value.string (phS p))[k]? = some (.string (phS (ps.getD k ph0))) := by simp [hlt]
      have hup2 := HU.out.step (u := .string (phS (ps.getD k ph0))) (by simpa using hlt) hst
      generalize ps.getD k ph0 = p at *
      obtain ⟨x, y⟩ := p
      simp only at c0 c1 hln hcol
      obtain ⟨y0, y1⟩ := hln
      have hiz : (itoaS y).size ≤ 21 := by simpa [itoaS, ByteArray.size] using Lib.itoa_length_le y (by omega) (by omega)
      have HD := Lib.hid (fun w hp => show Calls Tryd.prog 71 #[.int .i64 y] w fun e w' => e = .returned (.string (itoaS y)) ∧ Below w.heap.size w w' from decimal_any y w (by omega) (by omega) hp)
      have hgz : (sgnC x).size ≤ 1 := by
        unfold sgnC
        split
        · exact Nat.le_refl 1
        · exact hcol
      have HG := Lib.hid (fun w => signcol_any x w)
      rw [show phS (x, y) = sgnC x ++ itoaS y from rfl] at hup2
      generalize sgnC x = g at *
      generalize itoaS y = u at *
      have k1 := fun w => run_string_add_sum (P := Tryd.prog) (w := w) g u (by omega)
      have HUP := Lib.hid hup2
      have HBR := Lib.hid hbel
      have HOW := Lib.hid hown
      clear hup2 hst hbel hown hp hcol
      have hxl : xs.length = ps.length := by have := HU.out.1; simpa using this
      go_wp2_with (fail)
      go_region_with ((first
        | (go_at_call 70; refine (HG.out _).mono ?_; rintro e w2 ⟨rfl, rfl⟩)
        | (go_at_call 71; refine (HD.out _ (HP.out.below (Below.next HBR.out (by go_grown)))).mono ?_; rintro e w3 ⟨rfl, hb⟩; have hx := Below.next (a := wr) (by go_grown) hb; have ho3 := own_below HOW.out hx; have hb3 := Below.next HBR.out hx; have hold := ho3.cellAt k (by omega); rw [List.getElem?_eq_getElem (by omega)] at hold; have hfz := ho3.frozenAt k; have HST := Lib.hid (ho3.stored k (.string (g ++ u))).1; have HB2 := Lib.hid (hb3.setCell (p := ⟨w0.heap.size, k, none⟩) (Nat.le_refl _) (.string (g ++ u))); clear hx ho3 hb3 hb)))
      all_goals
        go_wp2
        go_roundw
        case rel => exact ⟨k + 1, _, by omega, by go_num, HUP.out, HST.out, HB2.out⟩
        case measure => simp [intOf]; omega
    · obtain rfl : k = ps.length := by omega
      have hxs : xs = ps.map fun p => Value.string (phS p) := by
        have h := HU.out
        rw [show ps.length = (ps.map fun p => Value.string (phS p)).length by simp] at h
        exact h.all
      rw [hxs] at hown
      have hj : Lib.join ((ps.map phS).map (·.data.toList)) (⟨#[44]⟩ : ByteArray).data.toList = phtJ ps := by
        unfold phtJ
        congr 1
        rw [List.map_map]
        rfl
      have hcs : ∀ (j : Nat) x, (ps.map phS)[j]? = some x → wr.cell? ⟨w0.heap.size, 0 + j, none⟩ = some (.string x) := by
        intro j x hx
        have hlj : j < ps.length := by have := (List.getElem?_eq_some_iff.1 hx).1; simpa using this
        rw [Nat.zero_add, hown.cellAt j (by omega)]
        simp only [List.getElem?_map, List.getElem?_eq_getElem hlj, Option.map_some] at hx ⊢
        rw [Option.some.inj hx]
      have hsz : w0.heap.size < wr.heap.size := (hown.lt w0.heap.size rfl).2
      have hJ := Any.strings_Join Tryd.lays156 Tryd.Builder_Extra_156 w0.heap.size 0 ps.length (ps.map phS) ⟨#[44]⟩ wr hcs hsz (by simp; omega) (by simp) (by rw [hj]; have := HLEN.out; omega)
      rw [hj, List.length_map] at hJ
      have HJ := Lib.hid hJ
      have HBR := Lib.hid (Below.next HB0.out hbel)
      clear hJ hj hcs hsz hown hbel hxs
      obtain ⟨t, ht⟩ : ∃ t : ByteArray, t = ⟨(phtJ ps).toArray⟩ := ⟨_, rfl⟩
      rw [← ht] at HJ
      have HT := Lib.hid ht
      clear ht
      go_wp2_with (go_at_call 63; refine HJ.out.mono ?_; rintro e w2 ⟨rfl, hb2⟩)
      go_ret
      exact ⟨retS HT.out, Below.next HBR.out hb2⟩
end Go.Proofs.YtgcaipjknpcepaaDoor
