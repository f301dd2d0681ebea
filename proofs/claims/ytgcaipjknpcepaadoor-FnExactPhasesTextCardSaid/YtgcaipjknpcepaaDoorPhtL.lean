/- The text of phases, valid or not. -/
import Derived.Test.YtgcaipjknpcepaaDoorPhtS
import Derived.Test.YtgcaipjknpcepaaDoorPhtI
namespace Go.Proofs.YtgcaipjknpcepaaDoor
open Go.ChangeShapes Go.WideShapes Go.ChangeAt Go.RowKit Pm
theorem sphasestext_any (v : Value) (ps : List Ph) (w : World) (hm : ps.length ≤ 1048576) (h : PhAre w v ps) :
    Calls Tryd.prog 35 #[v] w fun e w' => e = .returned (.string (phText ps)) ∧ Below w.heap.size w w' := by
  have HV := Lib.hid (sval_any v ps w hm h)
  cases hb : validP ps
  · have HT := Lib.hid (show phText ps = ⟨#[]⟩ by unfold phText; rw [hb]; rfl)
    rw [hb] at HV
    clear hb h
    go_enter Tryd.func35, Tryd.ntmps35
    go_wp2_with (go_at_call 67; refine HV.out.mono ?_; rintro e w1 ⟨rfl, rfl⟩)
    go_ret
    exact ⟨retS HT.out.symm, Below.refl _ _⟩
  · have HS := Lib.hid (sphtext_any v ps w h (validP_out hb))
    obtain ⟨t, ht⟩ : ∃ t : ByteArray, t = ⟨(phtJ ps).toArray⟩ := ⟨_, rfl⟩
    have HT := Lib.hid (show phText ps = t by unfold phText; rw [hb, ht]; rfl)
    rw [hb] at HV
    rw [← ht] at HS
    clear hb h ht
    go_enter Tryd.func35, Tryd.ntmps35
    go_wp2_with (first
      | (go_at_call 67; refine HV.out.mono ?_; rintro e w1 ⟨rfl, rfl⟩)
      | (go_at_call 68; refine HS.out.mono ?_; rintro e w1 ⟨rfl, hb⟩))
    go_ret
    exact ⟨retS HT.out.symm, hb⟩
theorem phasestext_any (v : Value) (ps : List Ph) (w : World) (hm : ps.length ≤ 1048576) (h : PhAre w v ps) (hP : PowAt w) :
    Calls Tryd.prog 36 #[v] w fun e w' => e = .returned (.string (phText ps)) ∧ Below w.heap.size w w' := by
  cases hb : validP ps
  · have HV := Lib.hid (val_any v ps w hm h)
    have HT := Lib.hid (show phText ps = ⟨#[]⟩ by unfold phText; rw [hb]; rfl)
    rw [hb] at HV
    obtain ⟨a, c, rfl, _⟩ := h
    clear hb hP
    go_enter Tryd.func36, Tryd.ntmps36
    go_wp2_with (go_at_call 69; refine HV.out.mono ?_; rintro e w1 ⟨rfl, hb⟩)
    go_ret
    exact ⟨retS HT.out.symm, hb⟩
  · obtain ⟨a, c, rfl, h⟩ := h
    obtain ⟨b, off, rfl, hc⟩ := h.2.resolve_left (by intro e; rw [e] at hb; simp [validP] at hb)
    have hT : phText ps = ⟨(phtJ ps).toArray⟩ := by unfold phText; rw [hb]; rfl
    rw [hT]
    exact phtext_at b off c ps w hm hb hP hc
end Go.Proofs.YtgcaipjknpcepaaDoor
