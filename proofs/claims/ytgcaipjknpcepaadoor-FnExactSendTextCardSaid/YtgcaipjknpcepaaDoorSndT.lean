/- Sending a text: the model's function. -/
import Derived.Test.YtgcaipjknpcepaaDoorSndS
namespace Go.Proofs.YtgcaipjknpcepaaDoor
open Go.ChangeShapes Go.WideShapes Go.ChangeAt Go.RowKit Pm

def sndV (s c : ByteArray) (u : Int) : List Ph := if sntB s && colB c then (if inB 1 50 [u] then sndP c u 0 s.data.toList else []) else []
def sndC (s c : ByteArray) (u : Int) : Int := if sntB s && colB c then (if inB 1 50 [u] then 0 else 2) else 1
def OwnPairI (L : List Ph) (c : Int) (w : World) (e : Ending) (w' : World) : Prop := ∃ v, e = .returned (.tuple #[v, .int .i64 c]) ∧ OwnPh w' w.heap.size v L ∧ Below w.heap.size w w'
theorem retVIs {v : Value} {a b : Int} (h : a = b) : Ending.returned (.tuple #[v, .int .i64 a]) = .returned (.tuple #[v, .int .i64 b]) := by rw [h]
theorem unit_out {u : Int} (h : inB 1 50 [u] = true) : 1 ≤ u ∧ u ≤ 50 := by simpa [inB] using h
theorem sunit_any (u : Int) (w : World) :
    Calls Tryd.prog 52 #[.int .i64 u] w fun e w' => e = .returned (.bool (inB 1 50 [u])) ∧ w = w' := by
  have H := Lib.hid (fun w => in_any u 1 50 w)
  obtain ⟨b, hb⟩ : ∃ b, b = inB 1 50 [u] := ⟨_, rfl⟩
  rw [← hb] at H ⊢
  clear hb
  go_enter Tryd.func52, Tryd.ntmps52
  go_wp2_with (go_at_call 87; refine (H.out _).mono ?_; rintro e w1 ⟨rfl, rfl⟩)
  go_ret
  exact ⟨rfl, rfl⟩
set_option maxHeartbeats 1000000 in
theorem ssendtext_any (s c : ByteArray) (u : Int) (w : World) (hs : s.size ≤ 1048576) :
    Calls Tryd.prog 21 #[.string s, .string c, .int .i64 u] w (OwnPairI (sndV s c u) (sndC s c u) w) := by
  have HT := Lib.hid (stext_any s w hs)
  have HCL := Lib.hid (fun w => scol_any c w)
  have HU := Lib.hid (fun w => sunit_any u w)
  cases hb : sntB s
  · have HV := Lib.hid (show sndV s c u = [] by unfold sndV; rw [hb]; rfl)
    have HC := Lib.hid (show sndC s c u = 1 by unfold sndC; rw [hb]; rfl)
    rw [hb] at HT
    clear hb
    go_enter Tryd.func21, Tryd.ntmps21
    go_wp2_with (go_at_call 50; refine HT.out.mono ?_; rintro e w1 ⟨rfl, rfl⟩)
    go_ret2
    exact ⟨_, retVIs HC.out.symm, by rw [HV.out]; exact OwnPh.none _ _, Below.refl _ _⟩
  cases hc : colB c
  · have HV := Lib.hid (show sndV s c u = [] by unfold sndV; rw [hb, hc]; rfl)
    have HC := Lib.hid (show sndC s c u = 1 by unfold sndC; rw [hb, hc]; rfl)
    rw [hb] at HT
    rw [hc] at HCL
    clear hb hc
    go_enter Tryd.func21, Tryd.ntmps21
    go_wp2_with (first
      | (go_at_call 50; refine HT.out.mono ?_; rintro e w1 ⟨rfl, rfl⟩)
      | (go_at_call 51; refine (HCL.out _).mono ?_; rintro e w2 ⟨rfl, rfl⟩))
    go_ret2
    exact ⟨_, retVIs HC.out.symm, by rw [HV.out]; exact OwnPh.none _ _, Below.refl _ _⟩
  cases hu : inB 1 50 [u]
  · have HV := Lib.hid (show sndV s c u = [] by unfold sndV; rw [hb, hc, hu]; rfl)
    have HC := Lib.hid (show sndC s c u = 2 by unfold sndC; rw [hb, hc, hu]; rfl)
    rw [hb] at HT
    rw [hc] at HCL
    rw [hu] at HU
    clear hb hc hu
    go_enter Tryd.func21, Tryd.ntmps21
    go_wp2_with (first
      | (go_at_call 50; refine HT.out.mono ?_; rintro e w1 ⟨rfl, rfl⟩)
      | (go_at_call 51; refine (HCL.out _).mono ?_; rintro e w2 ⟨rfl, rfl⟩)
      | (go_at_call 52; refine (HU.out _).mono ?_; rintro e w3 ⟨rfl, rfl⟩))
    go_ret2
    exact ⟨_, retVIs HC.out.symm, by rw [HV.out]; exact OwnPh.none _ _, Below.refl _ _⟩
  · have hS := sent_out hb
    obtain ⟨h1, h2⟩ := unit_out hu
    have HSD := Lib.hid (fun w => ssend_any s c u w hS h1 h2)
    have HV := Lib.hid (show sndV s c u = sndP c u 0 s.data.toList by unfold sndV; rw [hb, hc, hu]; rfl)
    have HC := Lib.hid (show sndC s c u = 0 by unfold sndC; rw [hb, hc, hu]; rfl)
    rw [hb] at HT
    rw [hc] at HCL
    rw [hu] at HU
    clear hb hc hu hS h1 h2
    go_enter Tryd.func21, Tryd.ntmps21
    go_wp2_with (first
      | (go_at_call 50; refine HT.out.mono ?_; rintro e w1 ⟨rfl, rfl⟩)
      | (go_at_call 51; refine (HCL.out _).mono ?_; rintro e w2 ⟨rfl, rfl⟩)
      | (go_at_call 52; refine (HU.out _).mono ?_; rintro e w3 ⟨rfl, rfl⟩)
      | (go_at_call 53; refine (HSD.out _).mono ?_; rintro e w4 ⟨v4, rfl, ho, hb⟩; have HO := Lib.hid ho; have HB := Lib.hid hb; clear ho hb))
    go_ret2
    exact ⟨_, retVIs HC.out.symm, by rw [HV.out]; exact HO.out, HB.out⟩
end Go.Proofs.YtgcaipjknpcepaaDoor
