/- The contract of the model's reading of a number. -/
import Derived.Test.YthheacebafleeaaDoorInts
import Derived.Test.YthheacebafleeaaDoorNumM
import Derived.LoopTactic
import Derived.Outline
import Derived.Laws.Strings
namespace Go.Proofs.YthheacebafleeaaDoor
open Go.ChangeShapes Go.WideShapes Go.ChangeAt Go.RowKit Pm

theorem dv_bd17 {t : List UInt8} (h : t.all isD = true) (hl : t.length ≤ 17) : dv 0 t ≤ 99999999999999999 := by
  have h1 := dv_lt 0 t h
  have h2 : 10 ^ t.length ≤ 10 ^ 17 := Nat.pow_le_pow_right (by omega) hl
  have h3 : (10 : Nat) ^ 17 = 100000000000000000 := by decide
  omega


/-- The number read; 0 where there is none. -/
def numR (l : List UInt8) : Int := if canB l = true then numV l else 0
theorem numR_no {l : List UInt8} (h : canB l = false) : numR l = 0 := by unfold numR; rw [if_neg (by simp [h])]
theorem numR_yes {l : List UInt8} (h : canB l = true) : numR l = numV l := by unfold numR; rw [if_pos h]

theorem can_none {l : List UInt8} (h : body l = []) : canB l = false := by unfold canB; rw [h]; rfl
theorem can_long {l : List UInt8} (h : 18 < (body l).length) : canB l = false := by
  cases hc : canB l
  · rfl
  · have := (canB_out hc).2.1; omega
theorem can_zero {l : List UInt8} (h : (body l).head? = some 48) (h1 : 1 < l.length) : canB l = false := by
  cases hc : canB l
  · rfl
  · have := (canB_out hc).2.2.1 h; omega
theorem can_bad {l : List UInt8} {c : UInt8} (h : c ∈ body l) (hc : isD c = false) : canB l = false := by
  cases h' : canB l
  · rfl
  · have := List.all_eq_true.1 (canB_out h').2.2.2 c h
    rw [hc] at this; cases this

theorem ret2 {a b : Int} {p q : Bool} (h1 : a = b) (h2 : p = q) : Ending.returned (.tuple #[.int .i64 a, .bool p]) = .returned (.tuple #[.int .i64 b, .bool q]) := by rw [h1, h2]

theorem pre_snoc (s : ByteArray) (a k : Nat) (h : a ≤ k) (hk : k < s.size) : (s.data.toList.drop a).take (k + 1 - a) = (s.data.toList.drop a).take (k - a) ++ [s[k]] := by
  have hl : k - a < (s.data.toList.drop a).length := by simp; omega
  rw [show k + 1 - a = k - a + 1 by omega, List.take_succ_eq_append_getElem hl]
  congr 2
  rw [List.getElem_drop]
  show s.data.toList[a + (k - a)]'_ = s.data.toList[k]'_
  congr 1
  omega
theorem mem_drop (s : ByteArray) (a k : Nat) (h : a ≤ k) (hk : k < s.size) : s[k] ∈ s.data.toList.drop a := by
  have hl : k - a < (s.data.toList.drop a).length := by simp; omega
  have : (s.data.toList.drop a)[k - a] = s[k] := by
    rw [List.getElem_drop]
    show s.data.toList[a + (k - a)]'_ = s.data.toList[k]'_
    congr 1
    omega
  rw [← this]; exact List.getElem_mem _
theorem head_drop (s : ByteArray) (a : Nat) (h : a < s.size) : (s.data.toList.drop a).head? = some s[a] := by
  rw [List.head?_drop, List.getElem?_eq_getElem (by simpa using h)]; rfl
theorem size_list (s : ByteArray) : s.data.toList.length = s.size := by simp




end Go.Proofs.YthheacebafleeaaDoor
