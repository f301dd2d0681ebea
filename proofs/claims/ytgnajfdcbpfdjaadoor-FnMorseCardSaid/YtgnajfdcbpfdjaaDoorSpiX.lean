/- The spelling of a text. The spelling of a text: the model's and the program's. The spelling of a text: the program's function. -/
import Derived.Test.YtgnajfdcbpfdjaaDoorStrK
import Derived.Lib.Join
import Derived.Shelf.Strings.OnBuilder
namespace Go.Proofs.YtgnajfdcbpfdjaaDoor
open Go.ChangeShapes Go.WideShapes Go.ChangeAt Go.RowKit Pm

/-- What stands for a letter, or for a blank. -/
def partB (b : UInt8) : List UInt8 := if b = 32 then [47] else morseB (b.toNat - 65)
def partS (b : UInt8) : ByteArray := ⟨(partB b).toArray⟩
/-- The rest of a spelling. -/
def spR (l : List UInt8) : List UInt8 := l.flatMap fun b => 32 :: partB b
def spL : List UInt8 → List UInt8
  | [] => []
  | x :: r => partB x ++ spR r
theorem spR_tail (l : List UInt8) : Lib.joinTail [32] (l.map partB) = spR l := by
  unfold Lib.joinTail spR
  rw [List.map_map, List.flatMap_def]
  rfl
theorem spL_join (l : List UInt8) : Lib.join (l.map partB) [32] = spL l := by
  cases l with
  | nil => rfl
  | cons x r => rw [List.map_cons, Lib.join_cons, spR_tail]; rfl
theorem spL_take (l : List UInt8) (k : Nat) (h : k < l.length) (h0 : 0 < k) : spL (l.take (k + 1)) = spL (l.take k) ++ (32 :: partB l[k]) := by
  cases l with
  | nil => simp at h
  | cons x r =>
    obtain ⟨j, rfl⟩ : ∃ j, k = j + 1 := ⟨k - 1, by omega⟩
    have hj : j < r.length := by simpa using h
    rw [List.take_succ_cons, List.take_succ_cons]
    show partB x ++ spR (r.take (j + 1)) = partB x ++ spR (r.take j) ++ _
    rw [List.take_succ_eq_append_getElem hj]
    unfold spR
    rw [List.flatMap_append, List.append_assoc]
    simp
theorem spL_one (l : List UInt8) (h : 0 < l.length) : spL (l.take 1) = partB l[0] := by
  cases l with
  | nil => simp at h
  | cons x r => show partB x ++ spR [] = _; simp [spR]
/-- A text that can be sent. -/
structure Sent (s : ByteArray) : Prop where
  most : s.size ≤ 12
  pos : 1 ≤ s.size
  byte : ∀ k (h : k < s.size), s[k] = 32 ∨ capB s[k] = true
  head : ∀ (h : 0 < s.size), s[0] ≠ 32
theorem okF_all : ∀ (l : List UInt8) (p : Bool), okF p l = true → (∀ x ∈ l, x = 32 ∨ capB x = true) ∧ (p = true → l ≠ [] ∧ ∀ x t, l = x :: t → x ≠ 32)
  | [], p, h => ⟨by simp, fun e => by rw [e] at h; simp [okF] at h⟩
  | x :: r, p, h => by
    rw [okF_cons] at h
    by_cases e : x = 32
    · rw [if_pos e, Bool.and_eq_true] at h
      obtain ⟨a, _⟩ := okF_all r true h.2
      refine ⟨fun y hy => ?_, fun hp => by rw [hp] at h; simp at h⟩
      rcases List.mem_cons.1 hy with q | q
      · exact .inl (q.trans e)
      · exact a y q
    · rw [if_neg e, Bool.and_eq_true] at h
      obtain ⟨a, _⟩ := okF_all r false h.2
      refine ⟨fun y hy => ?_, fun _ => ⟨by simp, fun y t q => ?_⟩⟩
      · rcases List.mem_cons.1 hy with q | q
        · rw [q]; exact .inr h.1
        · exact a y q
      · rw [List.cons.injEq] at q
        rw [← q.1]; exact e
theorem sent_out {s : ByteArray} (h : sntB s = true) : Sent s := by
  unfold sntB at h
  rw [Bool.and_eq_true, decide_eq_true_eq] at h
  obtain ⟨a, b⟩ := okF_all _ _ h.1
  obtain ⟨b1, b2⟩ := b rfl
  have hp : 1 ≤ s.size := by
    rw [← sz_toList]
    exact List.length_pos_iff.2 b1
  refine ⟨h.2, hp, fun k hk => ?_, fun h0 => ?_⟩
  · rw [← byte_at s k hk]; exact a _ (List.getElem_mem _)
  · rw [← byte_at s 0 h0]
    have e := List.drop_eq_getElem_cons (l := s.data.toList) (i := 0) (by simpa using h0)
    rw [List.drop_zero] at e
    exact b2 _ _ e
theorem cap_num {b : UInt8} (h : capB b = true) : ∃ r, r < 26 ∧ b.toNat = 65 + r := by
  unfold capB at h
  rw [Bool.and_eq_true, decide_eq_true_eq, decide_eq_true_eq] at h
  exact ⟨b.toNat - 65, by omega, by omega⟩
theorem partB_len {b : UInt8} (h : b = 32 ∨ capB b = true) : (partB b).length ≤ 4 := by
  unfold partB
  by_cases e : b = 32
  · rw [if_pos e]; decide
  · rw [if_neg e]
    obtain ⟨r, hr, hb⟩ := cap_num (h.resolve_left e)
    rw [hb, Nat.add_sub_cancel_left]
    exact (morse_facts r hr).2.1
def splV (s : ByteArray) : ByteArray := if sntB s then ⟨(spL s.data.toList).toArray⟩ else ⟨#[]⟩
def splC (s : ByteArray) : Int := if sntB s then 0 else 1
theorem spR_len : ∀ l : List UInt8, (∀ x ∈ l, x = 32 ∨ capB x = true) → (spR l).length ≤ 5 * l.length
  | [], _ => by simp [spR]
  | x :: r, h => by
    have h1 := spR_len r (fun y hy => h y (by simp [hy]))
    have h2 := partB_len (h x (by simp))
    have e : spR (x :: r) = (32 :: partB x) ++ spR r := rfl
    rw [e, List.length_append, List.length_cons, List.length_cons]; omega
theorem spL_len {l : List UInt8} (h : ∀ x ∈ l, x = 32 ∨ capB x = true) : (spL l).length ≤ 5 * l.length := by
  cases l with
  | nil => simp [spL]
  | cons x r =>
    have h1 := spR_len r (fun y hy => h y (by simp [hy]))
    have h2 := partB_len (h x (by simp))
    show (partB x ++ spR r).length ≤ _
    rw [List.length_append, List.length_cons]; omega
end Go.Proofs.YtgnajfdcbpfdjaaDoor
namespace Go.Proofs.YtgnajfdcbpfdjaaDoor
open Go.ChangeShapes Go.WideShapes Go.ChangeAt Go.RowKit Pm

theorem cat_bytes (A B : List UInt8) : (⟨A.toArray⟩ : ByteArray) ++ (⟨B.toArray⟩ : ByteArray) = ⟨(A ++ B).toArray⟩ := by
  refine WideShapes.bytes_inj ?_
  simp [ByteArray.data_append]
theorem size_mk (A : List UInt8) : (⟨A.toArray⟩ : ByteArray).size = A.length := by simp [ByteArray.size]
end Go.Proofs.YtgnajfdcbpfdjaaDoor
namespace Go.Proofs.YtgnajfdcbpfdjaaDoor
open Go.ChangeShapes Go.WideShapes Go.ChangeAt Go.RowKit Pm

theorem signs_one (x : UInt8) (r : Nat) (hr : r < 26) (hx : x.toNat = 65 + r) : signsV ⟨#[x]⟩ = morseS r := by
  have : capN ⟨#[x]⟩ = some r := by
    show (if 65 ≤ x.toNat ∧ x.toNat ≤ 90 then some (x.toNat - 65) else none) = some r
    rw [if_pos (by omega), hx, Nat.add_sub_cancel_left]
  unfold signsV; rw [this]
theorem chS_at (s : ByteArray) (k : Nat) (h : k < s.size) : (strV (chS s))[k]? = some (.string ⟨#[s[k]]⟩) := by
  have hl : k < s.data.toList.length := by simpa using h
  simp only [strV, chS, List.getElem?_map, List.getElem?_eq_getElem hl, Option.map_some, byte_at s k h]
theorem parts_take (s : ByteArray) (k : Nat) (h : k < s.size) : (s.data.toList.take (k + 1)).map partS = (s.data.toList.take k).map partS ++ [partS s[k]] := by
  have hl : k < s.data.toList.length := by simpa using h
  rw [List.take_succ_eq_append_getElem hl, List.map_append, byte_at s k h]; rfl
end Go.Proofs.YtgnajfdcbpfdjaaDoor
