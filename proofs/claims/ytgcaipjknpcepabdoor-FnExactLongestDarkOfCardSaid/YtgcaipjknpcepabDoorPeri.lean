/- The least period of phases: the model's and the program's. -/
import Derived.Test.YtgcaipjknpcepabDoorPerS
import Derived.Test.YtgcaipjknpcepabDoorPicO
import Derived.Test.YtgcaipjknpcepabDoorLen
namespace Go.Proofs.YtgcaipjknpcepabDoor
open Go.ChangeShapes Go.WideShapes Go.ChangeAt Go.RowKit Pm

def perP (ps : List Ph) : Int := if validP ps then (perL (tenL ps) : Int) else 0
/-- One period. -/
def onceL (T : List UInt8) : List UInt8 := T.take (perL T)
theorem once_len {T : List UInt8} (h : 1 ≤ T.length) : (onceL T).length = perL T := by
  unfold onceL; rw [List.length_take]; have := (perL_is T h).le; omega
theorem once_map (T : List UInt8) (h : PicL T) : (T.map unT).take (perL (T.map unT)) = (onceL T).map unT := by
  rw [perL_map h]; unfold onceL; rw [List.map_take]
theorem OwnB.form2 {w : World} {B : Nat} {v : Value} {l : List UInt8} (h : OwnB w B v l) (hp : 0 < l.length) : ∃ g cap, v = .slice (some ⟨g, 0, Option.none⟩) l.length cap ∧ l.length ≤ cap ∧ cap ≤ maxLen ∧ B ≤ g ∧ BytAt w g l := by
  obtain ⟨g, cap, rfl, hB, hc⟩ := h.form hp
  rcases h.2 with ⟨_, e⟩ | ⟨g2, cap2, cur, h1, h3, _, h5, h6, _⟩
  · omega
  · cases h1
    exact ⟨g, cap, rfl, h5, h6, hB, hc⟩
/-- A row of bytes is handed back. -/
def BytRd (l : List UInt8) (w : World) (e : Ending) (w' : World) : Prop :=
  ∃ g cap, e = .returned (.slice (some ⟨g, 0, none⟩) l.length cap) ∧ l.length ≤ cap ∧ w.heap.size ≤ g ∧ BytAt w' g l ∧ Below w.heap.size w w'
set_option maxHeartbeats 1000000 in
theorem sonce_any (v : Value) (ps : List Ph) (w : World) (h : PhAre w v ps) (hv : ValP ps) :
    Calls Tryd.prog 35 #[v] w (BytRd ((onceL (tenL ps)).map unT) w) := by
  have HS := Lib.hid (stenths_any v ps w h hv)
  have hO := once_map (tenL ps) hv.ten
  have hp : 0 < ((tenL ps).map unT).length := by rw [List.length_map]; exact hv.ten.pos
  have hq : ((tenL ps).map unT).length ≤ 600 := by rw [List.length_map]; exact hv.ten.most
  have hz : ((onceL (tenL ps)).map unT).length = perL ((tenL ps).map unT) := by rw [List.length_map, once_len hv.ten.pos, perL_map hv.ten]
  have hle := (perL_is _ hp).le
  obtain ⟨o, ho⟩ : ∃ o, o = (onceL (tenL ps)).map unT := ⟨_, rfl⟩
  obtain ⟨l, hl⟩ : ∃ l, l = (tenL ps).map unT := ⟨_, rfl⟩
  rw [← ho] at hO hz ⊢
  rw [← hl] at HS hp hq hz hle hO
  have HO := Lib.hid hO
  have HZ := Lib.hid hz
  have HG := Lib.hid (fun w g cap hc => speriod_any g cap l w hp hq hc)
  obtain ⟨z, hzz⟩ : ∃ z, z = perL l := ⟨_, rfl⟩
  rw [← hzz] at HG hle HO HZ
  clear h hv ho hl hO hz hzz
  go_enter Tryd.func35, Tryd.ntmps35
  go_wp2_with (go_at_call 22; refine HS.out.mono ?_; rintro e w2 ⟨v2, rfl, ho, hb⟩; refine Hid.out ?_)
  refine Lib.hid ?_
  obtain ⟨g, cap, rfl, hcap, hcm, hg, hcell⟩ := ho.form2 hp
  have HB := Lib.hid hb
  have HC := Lib.hid (show BytAt w2 g l from hcell)
  have hzc : (z : Int) ≤ (cap : Int) := by omega
  clear ho hb hcell
  go_wp2_with (go_at_call 54; refine (HG.out _ _ _ HC.out).mono ?_; rintro e w3 ⟨rfl, hb⟩; have HB2 := Lib.hid hb; clear hb)
  go_ret
  obtain rfl := HO.out
  have hz := HZ.out
  refine ⟨g, cap, by rw [hz]; rfl, by omega, hg, fun k hk => ?_, Below.next HB.out HB2.out⟩
  rw [(HC.out.below HB2.out) k (by rw [List.length_take] at hk; omega), List.getElem_take]
end Go.Proofs.YtgcaipjknpcepabDoor
