/- The picture of phases: the program's function. -/
import Derived.Test.YtgcaipjknpcepabDoorPicI
namespace Go.Proofs.YtgcaipjknpcepabDoor
open Go.ChangeShapes Go.WideShapes Go.ChangeAt Go.RowKit Pm
theorem Bld.drew {B b : Nat} {l : List UInt8} {w : World} (h : Bld B b l w) : Bld B b l w.drew := h.below (Below.refl _ _).drew
set_option maxRecDepth 100000 in
set_option maxHeartbeats 1000000 in
theorem picture_any (v : Value) (ps : List Ph) (w : World) (h : PhAre w v ps) (hv : ValP ps) :
    Calls Tryd.prog 27 #[v] w fun e w' => e = .returned (.string ⟨(tenL ps).toArray⟩) ∧ Below w.heap.size w w' := by
  obtain ⟨a, c, rfl, h⟩ := h
  obtain ⟨b, off, rfl, hc⟩ := h.2.resolve_left (by intro e; have := hv.pos; rw [e] at this; simp at this)
  have HC := Lib.hid hc
  have HV := Lib.hid hv
  have h40 := hv.most
  clear hc h hv
  go_enter Tryd.func27, Tryd.ntmps27
  go_wp2_with (fail)
  go_loopw [8] (fun i wr => ∃ (k : Nat), k ≤ ps.length ∧ i = .int .i64 k ∧ Bld w.heap.size w.heap.size (tenL (ps.take k)) wr ∧ Below w.heap.size w wr) (fun i _ => ps.length - (intOf i).toNat)
  case atStart => exact ⟨0, Nat.zero_le _, rfl, Bld.new w, by go_grown⟩
  case round =>
    obtain ⟨k, hk, rfl, hbd, hbel⟩ := hrel
    have HD := Lib.hid hbd
    have HB := Lib.hid hbel
    clear hbd
    by_cases hlt : k < ps.length
    · have hkn : (k : Int) < (ps.length : Int) := by omega
      have c0 := cell_below (HC.out k hlt).1 hbel
      have c1 := cell_below (HC.out k hlt).2 hbel
      have hp : ps.getD k ph0 ∈ ps := by rw [ph_getD ps k hlt]; exact List.getElem_mem _
      have hln := HV.out.len _ hp
      have hcol := HV.out.col _ hp
      have HTK := Lib.hid (tenL_take ps k hlt)
      have htl : (tenL (ps.take k)).length ≤ 600 := by
        have h1 := HV.out.ten.most
        have h2 : tenL ps = tenL (ps.take k) ++ tenL (ps.drop k) := by rw [← tenL_app, List.take_append_drop]
        rw [h2, List.length_append] at h1
        omega
      generalize ps.getD k ph0 = p at *
      obtain ⟨x, y⟩ := p
      simp only at c0 c1 hln hcol
      obtain ⟨y0, y1⟩ := hln
      obtain ⟨n, rfl⟩ := Int.eq_ofNat_of_zero_le (show 0 ≤ y by omega)
      have HG := Lib.hid (fun w => signp_any x w)
      rw [sgnP_one hcol] at HG
      have HR := Lib.hid (fun w => repeat_one (sgnb x) n w (by omega))
      have HTP := Lib.hid (show tenP (x, (n : Int)) = List.replicate n (sgnb x) from rfl)
      generalize sgnb x = g at *
      obtain ⟨m, hm⟩ : ∃ m, m = List.replicate n g := ⟨_, rfl⟩
      have hml : m.length ≤ 600 := by rw [hm, List.length_replicate]; omega
      rw [← hm] at HR HTP
      obtain ⟨l, hl⟩ : ∃ l, l = tenL (ps.take k) := ⟨_, rfl⟩
      rw [← hl] at HTK HD htl
      clear hm hl hbel hp hcol
      go_wp2_with (fail)
      go_region_with ((first
        | (go_at_call 47; refine (HG.out _).mono ?_; rintro e w2 ⟨rfl, rfl⟩)
        | (go_at_call 46; refine (HR.out _).mono ?_; rintro e w3 ⟨rfl, hb⟩; have hx := Below.next (a := wr) (by go_grown) hb; have HD2 := Lib.hid (HD.out.below hx); have HB2 := Lib.hid (Below.next HB.out hx); clear hx hb)
        | (go_at_call 45; refine (bwrite_any _ _ l m _ (by first | exact HD2.out | exact HD2.out.drew) (by omega) (by first | exact HB2.out.size | exact HB2.out.drew.size)).mono ?_; rintro e w4 ⟨⟨v4, rfl⟩, h4, hb4⟩; have HD4 := Lib.hid h4; have HB4 := Lib.hid (Below.trans (by first | exact HB2.out | exact HB2.out.drew) hb4); clear h4 hb4)))
      all_goals
        go_wp2
        go_roundw
        case rel => exact ⟨k + 1, by omega, by go_num, by rw [HTK.out, HTP.out]; exact HD4.out, HB4.out⟩
        case measure => simp [intOf]; omega
    · have HE := Lib.hid (show tenL (ps.take k) = tenL ps by rw [List.take_of_length_le (by omega)])
      have HS := Lib.hid (bstring_any _ _ _ wr HD.out HB.out.size)
      rw [HE.out] at HS
      obtain ⟨t, ht⟩ : ∃ t, t = (⟨(tenL ps).toArray⟩ : ByteArray) := ⟨_, rfl⟩
      rw [← ht] at HS
      have HT := Lib.hid ht
      clear hbel ht
      go_wp2_with (go_at_call 48; refine HS.out.mono ?_; rintro e w2 ⟨rfl, hb⟩)
      go_ret
      exact ⟨retS HT.out, HB.out.trans hb⟩
end Go.Proofs.YtgcaipjknpcepabDoor
