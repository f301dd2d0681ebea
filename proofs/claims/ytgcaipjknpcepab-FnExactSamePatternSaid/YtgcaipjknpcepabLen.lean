/- The length of a pattern: the model's and the program's. -/
import Derived.Test.YtgcaipjknpcepabTen
namespace Go.Proofs.Ytgcaipjknpcepab
open Go.ChangeShapes Go.WideShapes Go.ChangeAt Go.RowKit Pm
def lenC (ps : List Ph) : Int := if validP ps then 0 else 1
def lenP (ps : List Ph) : Int := if validP ps then sumP ps else 0
theorem slength_any (v : Value) (ps : List Ph) (w : World) (hm : ps.length ≤ 1048576) (h : PhAre w v ps) :
    Calls Try.prog 9 #[v] w fun e w' => e = .returned (.tuple #[.int .i64 (lenP ps), .int .i64 (lenC ps)]) ∧ Below w.heap.size w w' := by
  have HV := Lib.hid (sval_any v ps w hm h)
  cases hb : validP ps
  · have HZ := Lib.hid (show lenP ps = 0 by unfold lenP; rw [hb]; rfl)
    have HC := Lib.hid (show lenC ps = 1 by unfold lenC; rw [hb]; rfl)
    rw [hb] at HV
    clear hb h
    go_enter Try.func9, Try.ntmps9
    go_wp2_with (go_at_call 22; refine HV.out.mono ?_; rintro e w1 ⟨rfl, rfl⟩)
    go_ret2
    exact ⟨retII HZ.out.symm HC.out.symm, Below.refl _ _⟩
  · have hv := validP_out hb
    have HS := Lib.hid (stenths_any v ps w h hv)
    have hl : (((tenL ps).map unT).length : Int) = sumP ps := by rw [List.length_map]; exact hv.len_eq
    have HZ := Lib.hid (show lenP ps = (((tenL ps).map unT).length : Int) by unfold lenP; rw [hb, hl]; rfl)
    have HC := Lib.hid (show lenC ps = 0 by unfold lenC; rw [hb]; rfl)
    have hp : 0 < ((tenL ps).map unT).length := by rw [List.length_map]; exact hv.ten.pos
    have hq : ((tenL ps).map unT).length ≤ 600 := by rw [List.length_map]; exact hv.ten.most
    obtain ⟨T, hT⟩ : ∃ T, T = (tenL ps).map unT := ⟨_, rfl⟩
    rw [← hT] at HS HZ hp hq
    rw [hb] at HV
    clear hb h hv hl hT
    go_enter Try.func9, Try.ntmps9
    go_wp2_with (first
      | (go_at_call 22; refine HV.out.mono ?_; rintro e w1 ⟨rfl, rfl⟩)
      | (go_at_call 23; refine HS.out.mono ?_; rintro e w2 ⟨v2, rfl, ho, hb⟩; obtain ⟨g, cap, rfl, _, _⟩ := ho.form hp; clear ho; have HB := Lib.hid hb; clear hb))
    go_ret2
    exact ⟨retII HZ.out.symm HC.out.symm, HB.out⟩
theorem patlen_any (v : Value) (ps : List Ph) (w : World) (hm : ps.length ≤ 1048576) (h : PhAre w v ps) :
    Calls Try.prog 11 #[v] w fun e w' => e = .returned (.tuple #[.int .i64 (lenP ps), .int .i64 (lenC ps)]) ∧ Below w.heap.size w w' := by
  have HV := Lib.hid (val_any v ps w hm h)
  cases hb : validP ps
  · have HZ := Lib.hid (show lenP ps = 0 by unfold lenP; rw [hb]; rfl)
    have HC := Lib.hid (show lenC ps = 1 by unfold lenC; rw [hb]; rfl)
    rw [hb] at HV
    obtain ⟨a, c, rfl, _⟩ := h
    clear hb
    go_enter Try.func11, Try.ntmps11
    go_wp2_with (go_at_call 25; refine HV.out.mono ?_; rintro e w1 ⟨rfl, hb⟩)
    go_ret2
    exact ⟨retII HZ.out.symm HC.out.symm, hb⟩
  · have hv := validP_out hb
    have ha : ps.all okPh = true := by
      have := hb
      unfold validP at this
      simp only [Bool.and_eq_true] at this
      exact this.1.2
    obtain ⟨a, c, rfl, h⟩ := h
    obtain ⟨b, off, rfl, hc⟩ := h.2.resolve_left (by intro e; have := hv.pos; rw [e] at this; simp at this)
    have HLN := Lib.hid (fun w hc => lenall_at b off c ps w hv.most ha hc)
    have HCC := Lib.hid hc
    have HZ := Lib.hid (show lenP ps = sumP ps by unfold lenP; rw [hb]; rfl)
    have HC := Lib.hid (show lenC ps = 0 by unfold lenC; rw [hb]; rfl)
    rw [hb] at HV
    obtain ⟨z, hz⟩ : ∃ z, z = sumP ps := ⟨_, rfl⟩
    rw [← hz] at HLN HZ
    clear hb hv ha h hc hz
    go_enter Try.func11, Try.ntmps11
    go_wp2_with (first
      | (go_at_call 25; refine HV.out.mono ?_; rintro e w1 ⟨rfl, hb⟩; have HB := Lib.hid hb; clear hb)
      | (go_at_call 26; refine (HLN.out _ (fun i hi => ⟨cell_below (HCC.out i hi).1 HB.out, cell_below (HCC.out i hi).2 HB.out⟩)).mono ?_; rintro e w2 ⟨rfl, hb⟩; have HB2 := Lib.hid (Below.next HB.out hb); clear hb))
    go_ret2
    exact ⟨retII HZ.out.symm HC.out.symm, HB2.out⟩
end Go.Proofs.Ytgcaipjknpcepab
