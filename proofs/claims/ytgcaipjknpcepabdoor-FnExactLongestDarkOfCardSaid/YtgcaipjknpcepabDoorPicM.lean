/- A light's tenths, as bytes. No Go in sight. -/
import Derived.Test.YtgcaipjknpcepabDoorPhsV
namespace Go.Proofs.YtgcaipjknpcepabDoor
open Go.ChangeShapes Go.WideShapes Go.ChangeAt Go.RowKit Pm

/-- The sign of a color: a dark one has its own; its byte. -/
def sgnP (s : ByteArray) : ByteArray := if s.toList.isEmpty then ⟨#[45]⟩ else s
def sgnb (s : ByteArray) : UInt8 := if s.toList.isEmpty then 45 else s.data.toList.headD 0
/-- The tenths of a phase; of phases. -/
def tenP (p : Ph) : List UInt8 := List.replicate p.2.toNat (sgnb p.1)
def tenL (ps : List Ph) : List UInt8 := ps.flatMap tenP
theorem tenL_nil : tenL [] = [] := rfl
theorem tenL_app (ps qs : List Ph) : tenL (ps ++ qs) = tenL ps ++ tenL qs := by simp [tenL]
theorem tenL_one (p : Ph) : tenL [p] = tenP p := by simp [tenL]
theorem tenL_take (ps : List Ph) (k : Nat) (h : k < ps.length) : tenL (ps.take (k + 1)) = tenL (ps.take k) ++ tenP (ps.getD k ph0) := by
  rw [ph_take ps k h, tenL_app, tenL_one]
theorem sgnP_one {s : ByteArray} (h : s.toList = [] ∨ colB s = true) : sgnP s = ⟨#[sgnb s]⟩ := by
  unfold sgnP sgnb
  have hd : s.data.toList = s.toList := (ByteArray.toList_eq s).symm
  rw [hd]
  rcases h with h | h
  · rw [h]; rfl
  · have f : ∀ c : UInt8, s.toList = [c] → (if s.toList.isEmpty = true then (⟨#[45]⟩ : ByteArray) else s) = ⟨#[if s.toList.isEmpty = true then 45 else s.toList.headD 0]⟩ := fun c hc => by
      rw [hc]
      refine WideShapes.bytes_inj ?_
      simp only [List.isEmpty_cons, Bool.false_eq_true, if_false]
      rw [hd, hc]; rfl
    rcases colB_cases h with h | h | h | h <;> exact f _ h
/-- A byte of a picture: dark, or a color. -/
def picb (b : UInt8) : Bool := b == 45 || b == 71 || b == 82 || b == 87 || b == 89
theorem sgnb_pic {s : ByteArray} (h : s.toList = [] ∨ colB s = true) : picb (sgnb s) = true := by
  unfold sgnb
  have hd : s.data.toList = s.toList := (ByteArray.toList_eq s).symm
  rw [hd]
  rcases h with h | h
  · rw [h]; rfl
  · rcases colB_cases h with h | h | h | h <;> rw [h] <;> rfl
theorem picb_cases {b : UInt8} (h : picb b = true) : b = 45 ∨ b = 71 ∨ b = 82 ∨ b = 87 ∨ b = 89 := by
  simp only [picb, Bool.or_eq_true, beq_iff_eq] at h
  rcases h with (((h | h) | h) | h) | h
  · exact .inl h
  · exact .inr (.inl h)
  · exact .inr (.inr (.inl h))
  · exact .inr (.inr (.inr (.inl h)))
  · exact .inr (.inr (.inr (.inr h)))
theorem tenP_len {p : Ph} (h : 0 ≤ p.2) : ((tenP p).length : Int) = p.2 := by unfold tenP; rw [List.length_replicate]; omega
theorem tenL_len : ∀ (ps : List Ph), (∀ p ∈ ps, 1 ≤ p.2 ∧ p.2 ≤ 600) → ((tenL ps).length : Int) = sumP ps
  | [], _ => rfl
  | p :: ps, h => by
    have h1 := tenL_len ps (fun q hq => h q (by simp [hq]))
    have h2 := tenP_len (p := p) (by have := h p (by simp); omega)
    have e : tenL (p :: ps) = tenP p ++ tenL ps := rfl
    have e2 : sumP (p :: ps) = p.2 + sumP ps := by unfold sumP lensP; simp [sumI]
    rw [e, List.length_append, e2]
    omega
theorem tenL_pic {ps : List Ph} (h : ∀ p ∈ ps, p.1.toList = [] ∨ colB p.1 = true) : ∀ b ∈ tenL ps, picb b = true := by
  intro b hb
  unfold tenL at hb
  obtain ⟨p, hp, hb⟩ := List.mem_flatMap.1 hb
  unfold tenP at hb
  rw [(List.mem_replicate.1 hb).2]
  exact sgnb_pic (h p hp)
/-- What is known of the tenths of valid phases. -/
structure PicL (T : List UInt8) : Prop where
  pos : 1 ≤ T.length
  most : T.length ≤ 600
  pic : ∀ b ∈ T, picb b = true
theorem sum_pos : ∀ {ps : List Ph}, (∀ p ∈ ps, 1 ≤ p.2 ∧ p.2 ≤ 600) → (ps.length : Int) ≤ sumP ps
  | [], _ => by simp [sumP, lensP, sumI]
  | p :: ps, h => by
    have h1 := sum_pos (ps := ps) (fun q hq => h q (by simp [hq]))
    have h2 := h p (by simp)
    have e2 : sumP (p :: ps) = p.2 + sumP ps := by unfold sumP lensP; simp [sumI]
    rw [e2, List.length_cons]
    omega
theorem ValP.ten {ps : List Ph} (h : ValP ps) : PicL (tenL ps) := by
  have h1 := tenL_len ps h.len
  have h2 := sum_pos h.len
  have h3 := h.pos
  have h4 := h.sum
  exact ⟨by omega, by omega, tenL_pic h.col⟩
theorem ValP.len_eq {ps : List Ph} (h : ValP ps) : ((tenL ps).length : Int) = sumP ps := tenL_len ps h.len
/-- The model's byte of a picture's. -/
def unT (b : UInt8) : UInt8 := if b = 45 then 0 else b
end Go.Proofs.YtgcaipjknpcepabDoor
