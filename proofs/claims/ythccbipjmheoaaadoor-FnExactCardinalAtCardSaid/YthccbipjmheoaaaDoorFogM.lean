/- Fog signals: kinds, lengths, what is valid. No Go in sight. -/
import Derived.Test.YthccbipjmheoaaaDoorMath
namespace Go.Proofs.YthccbipjmheoaaaDoor.Pm

/-- The length of a blast; 0 for other numbers. -/
def fogLen (k : Int) : Int := if k = 1 then 20 else if k = 2 then 40 else if k = 3 then 5 else if k = 4 then 30 else 0
/-- The name of a kind. -/
def fogNm (k : Int) : ByteArray := if k = 1 then ⟨#[72, 111, 114, 110]⟩ else if k = 2 then ⟨#[83, 105, 114, 101, 110]⟩ else if k = 3 then ⟨#[66, 101, 108, 108]⟩ else if k = 4 then ⟨#[87, 104, 105, 115]⟩ else ⟨#[]⟩
def fogShape (k b : Int) : Bool := inB 1 4 [k] && inB 1 6 [b]
/-- The least period. -/
def fogLeast (k b : Int) : Int := 2 * b * fogLen k
def fogPer (k b p : Int) : Bool := inB (fogLeast k b) 1200 [p]
def fogPow (q : Int) : Bool := inB 60 140 [q]
def fogOk (k b p q : Int) : Bool := fogShape k b && fogPer k b p && fogPow q

theorem inb_yes {lo hi z : Int} (h : inB lo hi [z] = true) : lo ≤ z ∧ z ≤ hi := by simpa [inB] using h
theorem inb_in {lo hi z : Int} (h : lo ≤ z ∧ z ≤ hi) : inB lo hi [z] = true := by simpa [inB] using h
theorem inb_no {lo hi z : Int} (h : inB lo hi [z] = false) : ¬(lo ≤ z ∧ z ≤ hi) := fun k => by rw [inb_in k] at h; cases h
theorem kind_four {k : Int} (h : inB 1 4 [k] = true) : k = 1 ∨ k = 2 ∨ k = 3 ∨ k = 4 := by have := inb_yes h; omega
theorem fogLen_out {k : Int} (h : inB 1 4 [k] = false) : fogLen k = 0 := by
  have := inb_no h
  unfold fogLen
  rw [if_neg (by omega), if_neg (by omega), if_neg (by omega), if_neg (by omega)]
theorem fogNm_out {k : Int} (h : inB 1 4 [k] = false) : fogNm k = ⟨#[]⟩ := by
  have := inb_no h
  unfold fogNm
  rw [if_neg (by omega), if_neg (by omega), if_neg (by omega), if_neg (by omega)]
theorem fogLen_in {k : Int} (h : inB 1 4 [k] = true) : 5 ≤ fogLen k ∧ fogLen k ≤ 40 := by
  rcases kind_four h with rfl | rfl | rfl | rfl <;> decide
theorem fogLen_bd (k : Int) : 0 ≤ fogLen k ∧ fogLen k ≤ 40 := by
  cases h : inB 1 4 [k]
  · rw [fogLen_out h]; omega
  · have := fogLen_in h; omega
theorem fogLen_zero (k : Int) : (fogLen k == 0) = !inB 1 4 [k] := by
  cases h : inB 1 4 [k]
  · rw [fogLen_out h]; rfl
  · have := fogLen_in h
    simp; omega
theorem shape_yes {k b : Int} (h : fogShape k b = true) : inB 1 4 [k] = true ∧ 1 ≤ b ∧ b ≤ 6 := by
  simp only [fogShape, Bool.and_eq_true] at h
  exact ⟨h.1, inb_yes h.2⟩
theorem least_bd {k b : Int} (h : fogShape k b = true) : 10 ≤ fogLeast k b ∧ fogLeast k b ≤ 480 := by
  obtain ⟨h1, h2, h3⟩ := shape_yes h
  unfold fogLeast
  rcases kind_four h1 with rfl | rfl | rfl | rfl <;> simp [fogLen] <;> omega
theorem ok_parts {k b p q : Int} (h : fogOk k b p q = true) : fogShape k b = true ∧ (fogLeast k b ≤ p ∧ p ≤ 1200) ∧ (60 ≤ q ∧ q ≤ 140) := by
  simp only [fogOk, Bool.and_eq_true] at h
  exact ⟨h.1.1, inb_yes h.1.2, inb_yes h.2⟩
theorem step_least (k b : Int) : b * (2 * fogLen k) = fogLeast k b := by
  unfold fogLeast
  rw [← Int.mul_assoc, Int.mul_comm b 2]
end Go.Proofs.YthccbipjmheoaaaDoor.Pm
