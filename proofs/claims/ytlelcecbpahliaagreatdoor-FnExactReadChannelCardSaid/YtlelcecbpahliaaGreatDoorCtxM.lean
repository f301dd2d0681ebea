/- The text of a channel. No Go in sight. -/
import Derived.Test.YtlelcecbpahliaaGreatDoorChnW
import Derived.Test.YtlelcecbpahliaaGreatDoorStrO
import Derived.Test.YtlelcecbpahliaaGreatDoorPtText
namespace Go.Proofs.YtlelcecbpahliaaGreatDoor
open Go.ChangeShapes Go.WideShapes Go.ChangeAt Go.RowKit Pm

theorem joinc_snoc (xs : List (List UInt8)) (x sep : List UInt8) (h : xs ≠ []) : Lib.join (xs ++ [x]) sep = Lib.join xs sep ++ sep ++ x := by
  cases xs with
  | nil => exact absurd rfl h
  | cons a r =>
    simp only [List.cons_append]
    rw [Lib.join_cons, Lib.join_cons]
    simp [Lib.joinTail]
/-- The words of a channel's text; the text. -/
def ctxL (s : ByteArray) (z : Int) (ps : Pts) : List ByteArray := s :: itoaS z :: ps.map fun p => ptText p.1 p.2
def ctxJ (s : ByteArray) (z : Int) (ps : Pts) : List UInt8 := Lib.join ((ctxL s z ps).map (·.data.toList)) [32]
def ctxT (s : ByteArray) (z : Int) (ps : Pts) : ByteArray := if okC s ps z then ⟨(ctxJ s z ps).toArray⟩ else ⟨#[]⟩
theorem ctxL_snoc (s : ByteArray) (z : Int) (ps : Pts) (p : Int × Int) : ctxL s z (ps ++ [p]) = ctxL s z ps ++ [ptText p.1 p.2] := by simp [ctxL]
theorem ctxL_len (s : ByteArray) (z : Int) (ps : Pts) : (ctxL s z ps).length = ps.length + 2 := by simp [ctxL]
theorem ctxJ_snoc (s : ByteArray) (z : Int) (ps : Pts) (p : Int × Int) : ctxJ s z (ps ++ [p]) = ctxJ s z ps ++ [32] ++ (ptText p.1 p.2).data.toList := by
  unfold ctxJ
  rw [ctxL_snoc, List.map_append, List.map_singleton, joinc_snoc _ _ _ (by simp [ctxL])]
theorem ctxJ_nil (s : ByteArray) (z : Int) : ctxJ s z [] = s.data.toList ++ [32] ++ (itoaS z).data.toList := by
  unfold ctxJ ctxL
  simp [Lib.join_cons, Lib.joinTail]
theorem ptText_size {x y : Int} (h : okB (x, y) = true) : (ptText x y).size ≤ 43 ∧ ptText x y = ⟨(jn [x, y]).toArray⟩ := by
  have h2 : inB 0 200000 [x, y] = true := h
  obtain ⟨⟨x0, x1⟩, y0, y1⟩ : (0 ≤ x ∧ x ≤ 200000) ∧ 0 ≤ y ∧ y ≤ 200000 := by simpa [inB] using h2
  have lx := Lib.itoa_length_le x (by omega) (by omega)
  have ly := Lib.itoa_length_le y (by omega) (by omega)
  have e : ptText x y = ⟨(jn [x, y]).toArray⟩ := by unfold ptText; rw [if_pos h2]
  refine ⟨?_, e⟩
  rw [e, show jn [x, y] = Lib.itoa x ++ 44 :: jn [y] by simp [jn, Lib.join_cons, Lib.joinTail], jn_one]
  simp [ByteArray.size]
  omega
theorem ctxJ_size : ∀ (ps : Pts) (s : ByteArray) (z : Int), s.size ≤ 10 → (itoaS z).size ≤ 21 → (∀ p ∈ ps, okB p = true) → (ctxJ s z ps).length ≤ 32 + 44 * ps.length := by
  intro ps s z hs hz
  generalize hn : ps.length = n
  induction n generalizing ps with
  | zero =>
    intro _
    rw [List.length_eq_zero_iff.1 hn, ctxJ_nil]
    have h1 : s.data.toList.length = s.size := rfl
    have h2 : (itoaS z).data.toList.length = (itoaS z).size := rfl
    simp only [List.length_append, List.length_singleton, h1, h2]
    omega
  | succ n ih =>
    intro h
    have hne : ps ≠ [] := by intro e; rw [e] at hn; simp at hn
    obtain ⟨r, p, rfl⟩ : ∃ r p, ps = r ++ [p] := ⟨ps.dropLast, ps.getLast hne, (List.dropLast_concat_getLast hne).symm⟩
    rw [List.length_append, List.length_singleton] at hn
    have h1 := ih r (by omega) (fun q hq => h q (by simp [hq]))
    have h2 := (ptText_size (x := p.1) (y := p.2) (h p (by simp))).1
    have h3 : (ptText p.1 p.2).data.toList.length = (ptText p.1 p.2).size := rfl
    rw [ctxJ_snoc, List.length_append, List.length_append, List.length_singleton, h3]
    omega
theorem itoaz_size {z : Int} (h0 : 10 ≤ z) (h1 : z ≤ 5000) : (itoaS z).size ≤ 21 := by simpa [itoaS, ByteArray.size] using Lib.itoa_length_le z (by omega) (by omega)
theorem pts_take (ps : Pts) (k : Nat) (h : k < ps.length) : ps.take (k + 1) = ps.take k ++ [ps.getD k (0, 0)] := by
  rw [List.take_succ_eq_append_getElem h]; simp [h]
theorem take_ok {ps : Pts} (h : ∀ i, i < ps.length → okB (ps.getD i (0, 0)) = true) (k : Nat) : ∀ p ∈ ps.take k, okB p = true := by
  intro p hp
  obtain ⟨i, hi, rfl⟩ := List.getElem_of_mem (List.mem_of_mem_take hp)
  rw [← pt_getD ps i hi]; exact h i hi
theorem ctx_size {s : ByteArray} {ps : Pts} {z : Int} (h : okC s ps z = true) (k : Nat) : (ctxJ s z (ps.take k)).length ≤ 560 := by
  obtain ⟨h1, h2, h3, h4, h5, h6, _⟩ := okC_parts h
  have := ctxJ_size (ps.take k) s z h1 (itoaz_size h5 h6) (take_ok h4 k)
  have : (ps.take k).length ≤ 12 := by rw [List.length_take]; omega
  omega
end Go.Proofs.YtlelcecbpahliaaGreatDoor
