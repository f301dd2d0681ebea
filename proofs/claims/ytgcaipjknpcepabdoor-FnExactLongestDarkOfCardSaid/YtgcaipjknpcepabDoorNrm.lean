/- The normal form: the model's function. -/
import Derived.Test.YtgcaipjknpcepabDoorLst
import Derived.Test.YtgcaipjknpcepabDoorJoi
namespace Go.Proofs.YtgcaipjknpcepabDoor
open Go.ChangeShapes Go.WideShapes Go.ChangeAt Go.RowKit Pm

/-- The normal form of phases. -/
def nrmP (ps : List Ph) : List Ph := phsR ((normL (onceL (tenL ps))).map unT)
set_option maxHeartbeats 1000000 in
theorem snormal_any (v : Value) (ps : List Ph) (w : World) (h : PhAre w v ps) (hv : ValP ps) :
    Calls Tryd.prog 32 #[v] w (CopyPh (nrmP ps) w) := by
  have HS := Lib.hid (sonce_any v ps w h hv)
  have hP1 : 1 ≤ (onceL (tenL ps)).length := by rw [once_len hv.ten.pos]; exact (perL_is _ hv.ten.pos).pos
  have hP2 : (onceL (tenL ps)).length ≤ 600 := by rw [once_len hv.ten.pos]; exact Nat.le_trans (perL_is _ hv.ten.pos).le hv.ten.most
  have hpic : ∀ x ∈ onceL (tenL ps), picb x = true := fun x hx => hv.ten.pic x (List.mem_of_mem_take hx)
  unfold nrmP
  obtain ⟨P, hP⟩ : ∃ P, P = onceL (tenL ps) := ⟨_, rfl⟩
  rw [← hP] at HS hP1 hP2 hpic ⊢
  have HR := Lib.hid (fun b (h : IsNorm (P.map unT) b) => show rotL (P.map unT) b = (normL P).map unT by rw [rot_map, IsNorm.rot ((IsNorm.map hpic).1 h)])
  have hln : (P.map unT).length = P.length := List.length_map _
  obtain ⟨l, hl⟩ : ∃ l, l = P.map unT := ⟨_, rfl⟩
  rw [← hl] at HS HR hln
  rw [← hln] at hP1 hP2
  have HL := Lib.hid (fun w g cap hc => sleast_any g cap l w hP1 hP2 hc)
  have HJ := Lib.hid (fun w g cap b hb hc => sjoin_any g cap l b w hP1 hP2 hb hc)
  clear h hv hP hl hpic hln
  go_enter Tryd.func32, Tryd.ntmps32
  go_wp2_with (first
    | (go_at_call 35; refine HS.out.mono ?_; rintro e w2 ⟨g, cap, rfl, _, _, hc, hb⟩; have HB := Lib.hid hb; have HCE := Lib.hid hc; clear hb hc)
    | (go_at_call 51; refine (HL.out _ _ _ HCE.out).mono ?_; rintro e w3 ⟨⟨b, rfl, hn⟩, hb⟩; have HN := Lib.hid hn; have HC3 := Lib.hid (HCE.out.below hb); have HB3 := Lib.hid (Below.next HB.out hb); clear hb hn)
    | (go_at_call 23; refine (HJ.out _ _ _ _ HN.out.lt HC3.out).mono ?_; rintro e w4 ⟨v4, rfl, ho, hb⟩; have HO := Lib.hid ho; have HB4 := Lib.hid (Below.next HB3.out hb); have HZ := Lib.hid HB3.out.size; clear hb ho))
  go_ret
  exact ⟨_, rfl, by rw [← HR.out _ HN.out]; exact HO.out.mono HZ.out, HB4.out⟩
end Go.Proofs.YtgcaipjknpcepabDoor
