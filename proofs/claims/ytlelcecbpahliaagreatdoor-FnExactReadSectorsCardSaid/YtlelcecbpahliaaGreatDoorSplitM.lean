/- Dividing a text at a byte: the model. -/
import Derived.Test.YtlelcecbpahliaaGreatDoorListS
import Derived.Test.YtlelcecbpahliaaGreatDoorNumS
import Derived.Lib.SplitLaws
import Derived.Lib.IndexMore
namespace Go.Proofs.YtlelcecbpahliaaGreatDoor
open Go.ChangeShapes Go.WideShapes Go.ChangeAt Go.RowKit Pm

/-- The first piece with one more byte in front. -/
def glue (x : UInt8) : List (List UInt8) → List (List UInt8)
  | [] => [[x]]
  | p :: ps => (x :: p) :: ps
/-- The pieces between the instances of a byte. -/
def cutAt (c : UInt8) : List UInt8 → List (List UInt8)
  | [] => [[]]
  | x :: r => if x = c then [] :: cutAt c r else glue x (cutAt c r)

theorem cutAt_miss (c : UInt8) : ∀ p : List UInt8, c ∉ p → cutAt c p = [p]
  | [], _ => rfl
  | x :: r, h => by
    rw [List.mem_cons, not_or] at h
    rw [cutAt, if_neg (fun e => h.1 e.symm), cutAt_miss c r h.2]; rfl
theorem cutAt_hit (c : UInt8) (r : List UInt8) : ∀ p : List UInt8, c ∉ p → cutAt c (p ++ c :: r) = p :: cutAt c r
  | [], _ => by rw [List.nil_append, cutAt, if_pos rfl]
  | x :: q, h => by
    rw [List.mem_cons, not_or] at h
    rw [List.cons_append, cutAt, if_neg (fun e => h.1 e.symm), cutAt_hit c r q h.2]; rfl
theorem cutAt_ne (c : UInt8) : ∀ p : List UInt8, cutAt c p ≠ []
  | [] => by simp [cutAt]
  | x :: r => by
    rw [cutAt]
    split
    · simp
    · cases h : cutAt c r <;> simp [glue]
theorem cutAt_len (c : UInt8) : ∀ p : List UInt8, (cutAt c p).length = p.count c + 1
  | [] => rfl
  | x :: r => by
    rw [cutAt, List.count_cons]
    split
    · rename_i h; subst h; simp [cutAt_len x r]
    · rename_i h
      rw [if_neg (by simpa using h)]
      have h2 := cutAt_len c r
      cases h3 : cutAt c r with
      | nil => rw [h3] at h2; simp at h2
      | cons a b => rw [h3] at h2; simpa [glue] using h2
theorem cutAt_parts (c : UInt8) : ∀ p q : List UInt8, q ∈ cutAt c p → q.length ≤ p.length
  | [], q, h => by simp [cutAt] at h; simp [h]
  | x :: r, q, h => by
    rw [cutAt] at h
    split at h
    · rcases List.mem_cons.1 h with rfl | h
      · simp
      · have := cutAt_parts c r q h; simp; omega
    · cases h3 : cutAt c r with
      | nil => rw [h3] at h; simp [glue] at h; simp [h]
      | cons a b =>
        rw [h3] at h
        rcases List.mem_cons.1 h with rfl | h
        · have := cutAt_parts c r a (by rw [h3]; simp); simp; omega
        · have := cutAt_parts c r q (by rw [h3]; simp [h]); simp; omega

theorem occ_one (c : UInt8) (s : List UInt8) (i : Nat) (h : Lib.occAt s [c] i = true) : ∃ r, s.drop i = c :: r := by
  unfold Lib.occAt at h
  cases hd : s.drop i with
  | nil => rw [hd] at h; simp at h
  | cons x r => rw [hd] at h; simp at h; exact ⟨r, by rw [h]⟩

theorem splitK_cut (c : UInt8) : ∀ (k : Nat) (s : List UInt8), Lib.count s [c] = k → Lib.splitK [c] 0 k s = cutAt c s := by
  intro k
  induction k with
  | zero =>
    intro s h
    rw [Lib.count_one] at h
    have hn : c ∉ s := List.count_eq_zero.1 h
    rw [cutAt_miss c s hn]; rfl
  | succ k ih =>
    intro s h
    rcases Lib.index_spec s [c] with ⟨hi, _⟩ | ⟨i, hi, hle, hocc, hno⟩
    · rw [Lib.count_miss hi] at h; omega
    · obtain ⟨r, hr⟩ := occ_one c s i hocc
      have hs : s = s.take i ++ c :: r := by rw [← hr, List.take_append_drop]
      have hni : c ∉ s.take i := by
        intro hm
        obtain ⟨j, hj, hjc⟩ := List.getElem_of_mem hm
        have hji : j < i := by rw [List.length_take] at hj; omega
        have h2 := hno j hji
        have hjs : j < s.length := by rw [List.length_take] at hj; omega
        rw [List.getElem_take] at hjc
        have : Lib.occAt s [c] j = true := by
          unfold Lib.occAt
          rw [List.drop_eq_getElem_cons hjs, hjc]
          simp
        rw [this] at h2; cases h2
      have hdr : s.drop (i + 1) = r := by rw [← List.drop_drop, hr]; rfl
      have hc := Lib.count_hit (sub := [c]) (by simp) hi
      rw [show ([c] : List UInt8).length = 1 from rfl, hdr] at hc
      rw [Lib.splitK, if_neg (by rw [hi]; simp), hi]
      rw [show ((i : Int)).toNat + ([c] : List UInt8).length = i + 1 by simp, hdr, ih r (by omega)]
      rw [show ((i : Int)).toNat + 0 = i by simp]
      conv => rhs; rw [hs]
      rw [cutAt_hit c r _ hni]

/-- The pieces, as strings. -/
def cutS (c : UInt8) (s : ByteArray) : List ByteArray := (cutAt c s.data.toList).map fun l => ⟨l.toArray⟩

theorem splitB_cut (c : UInt8) (s : ByteArray) : Lib.splitB ⟨#[c]⟩ 0 (Lib.countB s ⟨#[c]⟩) s = cutS c s := by
  have h := Lib.splitB_data ⟨#[c]⟩ 0 (Lib.countB s ⟨#[c]⟩) s
  rw [show (⟨#[c]⟩ : ByteArray).data.toList = [c] from rfl, show Lib.countB s ⟨#[c]⟩ = Lib.count s.data.toList [c] from rfl, splitK_cut c _ _ rfl] at h
  have e : ∀ l : List ByteArray, (l.map (·.data.toList)).map (fun l => (⟨l.toArray⟩ : ByteArray)) = l := by
    intro l
    rw [List.map_map]
    conv => rhs; rw [← List.map_id l]
    apply List.map_congr_left
    intro b _
    rfl
  rw [← e (Lib.splitB ⟨#[c]⟩ 0 (Lib.countB s ⟨#[c]⟩) s), show Lib.countB s ⟨#[c]⟩ = Lib.count s.data.toList [c] from rfl, h]
  rfl
theorem cutS_len (c : UInt8) (s : ByteArray) : (cutS c s).length = Lib.countB s ⟨#[c]⟩ + 1 := by
  unfold cutS
  rw [List.length_map, cutAt_len, show Lib.countB s ⟨#[c]⟩ = Lib.count s.data.toList [c] from rfl, Lib.count_one]
theorem cutS_le (c : UInt8) (s : ByteArray) : (cutS c s).length ≤ s.size + 1 := by
  have := Lib.countB_le ⟨#[c]⟩ (Nat.le_refl 1) _ s (Nat.le_refl _)
  rw [cutS_len]; omega
theorem cutS_part (c : UInt8) (s p : ByteArray) (h : p ∈ cutS c s) : p.size ≤ s.size := by
  unfold cutS at h
  obtain ⟨l, hl, rfl⟩ := List.mem_map.1 h
  have := cutAt_parts c _ l hl
  rw [size_list] at this
  show l.toArray.size ≤ _
  simpa using this

/-- A round of the dividing loop. -/
def CutInv (c : UInt8) (s : ByteArray) (done : List ByteArray) (fr i : Nat) : Prop :=
  fr ≤ i ∧ i ≤ s.size ∧ cutS c s = done ++ cutS c (s.extract fr s.size) ∧ c ∉ (s.data.toList.drop fr).take (i - fr)
theorem CutInv.start (c : UInt8) (s : ByteArray) : CutInv c s [] 0 0 := by
  refine ⟨Nat.le_refl _, Nat.zero_le _, ?_, by simp⟩
  have : s.extract 0 s.size = s := WideShapes.bytes_inj (by rw [Lib.extract_to_end]; rfl)
  rw [this]; rfl
theorem piece_eq (s : ByteArray) (a b : Nat) : s.extract a b = ⟨((s.data.toList.drop a).take (b - a)).toArray⟩ := by
  refine WideShapes.bytes_inj ?_
  rw [Lib.extract_data]
theorem CutInv.miss {c : UInt8} {s : ByteArray} {done : List ByteArray} {fr i : Nat} (h : CutInv c s done fr i) (hi : i < s.size) (hc : s[i] ≠ c) : CutInv c s done fr (i + 1) := by
  obtain ⟨h1, h2, h3, h4⟩ := h
  refine ⟨by omega, by omega, h3, ?_⟩
  rw [pre_snoc s fr i h1 hi, List.mem_append, not_or]
  exact ⟨h4, by simpa using fun e => hc e.symm⟩
theorem CutInv.hit {c : UInt8} {s : ByteArray} {done : List ByteArray} {fr i : Nat} (h : CutInv c s done fr i) (hi : i < s.size) (hc : s[i] = c) : CutInv c s (done ++ [s.extract fr i]) (i + 1) (i + 1) := by
  obtain ⟨h1, h2, h3, h4⟩ := h
  refine ⟨Nat.le_refl _, by omega, ?_, by simp⟩
  rw [h3, List.append_assoc]
  congr 1
  unfold cutS
  rw [Lib.extract_to_end, Lib.extract_to_end]
  have e : s.data.toList.drop fr = (s.data.toList.drop fr).take (i - fr) ++ c :: s.data.toList.drop (i + 1) := by
    conv => lhs; rw [← List.take_append_drop (i - fr) (s.data.toList.drop fr)]
    congr 1
    rw [List.drop_drop, show fr + (i - fr) = i by omega, List.drop_eq_getElem_cons (by rw [size_list]; exact hi)]
    congr 1
  conv => lhs; rw [e]
  rw [cutAt_hit c _ _ h4, List.map_cons, piece_eq s fr i]
  rfl
theorem CutInv.done {c : UInt8} {s : ByteArray} {done : List ByteArray} {fr : Nat} (h : CutInv c s done fr s.size) : cutS c s = done ++ [s.extract fr s.size] := by
  obtain ⟨h1, h2, h3, h4⟩ := h
  rw [h3]
  congr 1
  unfold cutS
  rw [Lib.extract_to_end]
  rw [List.take_of_length_le (by rw [List.length_drop, size_list]; omega)] at h4
  rw [cutAt_miss c _ h4, List.map_singleton]
  congr 1
  refine WideShapes.bytes_inj ?_
  rw [Lib.extract_to_end]
end Go.Proofs.YtlelcecbpahliaaGreatDoor
