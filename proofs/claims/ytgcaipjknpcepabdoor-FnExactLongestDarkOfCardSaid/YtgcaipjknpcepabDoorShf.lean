/- Phases from another time on, and their normal form: the model's and the program's. -/
import Derived.Test.YtgcaipjknpcepabDoorNrm
import Derived.Test.YtgcaipjknpcepabDoorPho
namespace Go.Proofs.YtgcaipjknpcepabDoor
open Go.ChangeShapes Go.WideShapes Go.ChangeAt Go.RowKit Pm

/-- A call's answer: a row of phases of its own, and a number. -/
def OwnPair (L : List Ph) (c : Int) (w : World) (e : Ending) (w' : World) : Prop := ∃ v, e = .returned (.tuple #[v, .int .i64 c]) ∧ OwnPh w' w.heap.size v L ∧ Below w.heap.size w w'
theorem retVI {v : Value} {a b : Int} (h : a = b) : Ending.returned (.tuple #[v, .int .i64 a]) = .returned (.tuple #[v, .int .i64 b]) := by rw [h]
def nrmV (ps : List Ph) : List Ph := if validP ps then nrmP ps else []
theorem nrmV_len (ps : List Ph) : (nrmV ps).length ≤ 1048576 := by
  unfold nrmV
  split
  · rename_i hb
    have h := (validP_out hb).ten
    have h1 := phsR_len ((normL (onceL (tenL ps))).map unT)
    rw [List.length_map, normL_len, once_len h.pos] at h1
    have h2 := (perL_is _ h.pos).le
    have h3 := h.most
    unfold nrmP; omega
  · simp
theorem snrm_any (v : Value) (ps : List Ph) (w : World) (hm : ps.length ≤ 1048576) (h : PhAre w v ps) :
    Calls Tryd.prog 14 #[v] w (OwnPair (nrmV ps) (lenC ps) w) := by
  have HV := Lib.hid (sval_any v ps w hm h)
  cases hb : validP ps
  · have HZ := Lib.hid (show nrmV ps = [] by unfold nrmV; rw [hb]; rfl)
    have HC := Lib.hid (show lenC ps = 1 by unfold lenC; rw [hb]; rfl)
    rw [hb] at HV
    clear hb h
    go_enter Tryd.func14, Tryd.ntmps14
    go_wp2_with (go_at_call 21; refine HV.out.mono ?_; rintro e w1 ⟨rfl, rfl⟩)
    go_ret2
    exact ⟨_, retVI HC.out.symm, by rw [HZ.out]; exact OwnPh.none _ _, Below.refl _ _⟩
  · have hv := validP_out hb
    have HS := Lib.hid (snormal_any v ps w h hv)
    have HZ := Lib.hid (show nrmV ps = nrmP ps by unfold nrmV; rw [hb]; rfl)
    have HC := Lib.hid (show lenC ps = 0 by unfold lenC; rw [hb]; rfl)
    rw [hb] at HV
    clear hb h hv
    go_enter Tryd.func14, Tryd.ntmps14
    go_wp2_with (first
      | (go_at_call 21; refine HV.out.mono ?_; rintro e w1 ⟨rfl, rfl⟩)
      | (go_at_call 32; refine HS.out.mono ?_; rintro e w2 ⟨v2, rfl, ho, hb⟩; have HB := Lib.hid hb; have HO := Lib.hid ho; clear hb ho))
    go_ret2
    exact ⟨_, retVI HC.out.symm, by rw [HZ.out]; exact HO.out, HB.out⟩
set_option maxHeartbeats 1000000 in
theorem nrm_any (v : Value) (ps : List Ph) (w : World) (hm : ps.length ≤ 1048576) (h : PhAre w v ps) (hn : LenAt w) :
    Calls Tryd.prog 15 #[v] w (OwnPair (nrmV ps) (lenC ps) w) := by
  have HV := Lib.hid (val_any v ps w hm h)
  cases hb : validP ps
  · have HZ := Lib.hid (show nrmV ps = [] by unfold nrmV; rw [hb]; rfl)
    have HC := Lib.hid (show lenC ps = 1 by unfold lenC; rw [hb]; rfl)
    rw [hb] at HV
    clear hb h hn
    go_enter Tryd.func15, Tryd.ntmps15
    go_wp2_with (go_at_call 26; refine HV.out.mono ?_; rintro e w1 ⟨rfl, hb⟩)
    go_ret2
    exact ⟨_, retVI HC.out.symm, by rw [HZ.out]; exact OwnPh.none _ _, hb⟩
  · have hv := validP_out hb
    have hT := hv.ten
    have HPH := Lib.hid h
    have HN := Lib.hid hn
    have HS := Lib.hid (fun w h => picture_any v ps w h hv)
    have HF := Lib.hid (fun w h => normal_any (tenL ps) w hT.pos hT.most h)
    have HJ := Lib.hid (fun w => phases_any (normL (onceL (tenL ps))) w (fun x hx => hT.pic x (List.mem_of_mem_take (rot_mem hx))) (by rw [normL_len, once_len hT.pos]; exact Nat.le_trans (perL_is _ hT.pos).le hT.most))
    have HZ := Lib.hid (show nrmV ps = phsR ((normL (onceL (tenL ps))).map unT) by unfold nrmV; rw [hb]; rfl)
    have HC := Lib.hid (show lenC ps = 0 by unfold lenC; rw [hb]; rfl)
    obtain ⟨s, hs⟩ : ∃ s, s = (⟨(tenL ps).toArray⟩ : ByteArray) := ⟨_, rfl⟩
    obtain ⟨r, hr⟩ : ∃ r, r = (⟨(normL (onceL (tenL ps))).toArray⟩ : ByteArray) := ⟨_, rfl⟩
    rw [← hs] at HS HF
    rw [← hr] at HF HJ
    rw [hb] at HV
    clear hb h hv hT hs hn hr
    go_enter Tryd.func15, Tryd.ntmps15
    go_wp2_with (first
      | (go_at_call 26; refine HV.out.mono ?_; rintro e w1 ⟨rfl, hb⟩; have HB := Lib.hid hb; have HP1 := Lib.hid (HPH.out.below hb); have HN1 := Lib.hid (HN.out.below hb); clear hb)
      | (go_at_call 27; refine (HS.out _ HP1.out).mono ?_; rintro e w2 ⟨rfl, hb⟩; have HB2 := Lib.hid (Below.next HB.out hb); have HN2 := Lib.hid (HN1.out.below hb); clear hb)
      | (go_at_call 33; refine (HF.out _ HN2.out).mono ?_; rintro e w3 ⟨rfl, hb⟩; have HB3 := Lib.hid (Below.next HB2.out hb); clear hb)
      | (go_at_call 29; refine (HJ.out _).mono ?_; rintro e w4 ⟨v4, rfl, ho, hb⟩; have HO := Lib.hid ho; have HB4 := Lib.hid (Below.next HB3.out hb); have HSZ := Lib.hid HB3.out.size; clear hb ho))
    go_ret2
    exact ⟨_, retVI HC.out.symm, by rw [HZ.out]; exact HO.out.mono HSZ.out, HB4.out⟩
/-- Phases from another time on. -/
def shfR (ps : List Ph) (t : Int) : List Ph := phsR ((rotL (tenL ps) (plc t (tenL ps).length)).map unT)
def shfV (ps : List Ph) (t : Int) : List Ph := if validP ps then (if (shfR ps t).length ≤ 40 then shfR ps t else []) else []
def shfC (ps : List Ph) (t : Int) : Int := if validP ps then (if (shfR ps t).length ≤ 40 then 0 else 5) else 1
end Go.Proofs.YtgcaipjknpcepabDoor
