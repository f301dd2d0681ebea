/- Valid sectors: degrees, gaps, what both texts ask (plain Lean). -/
import Derived.Test.YtlelcecbpahliaaGreatDoorSct
import Derived.Test.YtlelcecbpahliaaGreatDoorPhsC
namespace Go.Proofs.YtlelcecbpahliaaGreatDoor

/-- A degree of the circle. -/
def inD (x : Int) : Bool := decide (0 ≤ x) && decide (x ≤ 359)
theorem inD_iff {x : Int} : inD x = true ↔ 0 ≤ x ∧ x ≤ 359 := by simp [inD]
theorem inD_no {x : Int} : inD x = false ↔ (x < 0 ∨ 359 < x) := by
  by_cases h : 0 ≤ x <;> by_cases h2 : x ≤ 359 <;> simp [inD, h, h2] <;> omega
def endsB (p : Sec) : Bool := inD p.1 && inD p.2.1
/-- Is it a sector? -/
def okSec (p : Sec) : Bool := endsB p && colB p.2.2
/-- The degrees from one bearing to another; the whole circle where they are one. -/
def arcV (f t : Int) : Int := if f = t then 360 else (t - f + 360) % 360
def arcS (p : Sec) : Int := if endsB p then arcV p.1 p.2.1 else 0
theorem arcV_bd {f t : Int} (hf : inD f = true) (ht : inD t = true) : 1 ≤ arcV f t ∧ arcV f t ≤ 360 := by
  rw [inD_iff] at hf ht
  unfold arcV
  split <;> omega
theorem arcS_bd (p : Sec) : 0 ≤ arcS p ∧ arcS p ≤ 360 := by
  unfold arcS
  split
  · rename_i h
    simp only [endsB, Bool.and_eq_true] at h
    have := arcV_bd h.1 h.2
    omega
  · omega
theorem arcS_pos (p : Sec) : decide (0 < arcS p) = endsB p := by
  unfold arcS
  cases h : endsB p
  · simp
  · simp only [endsB, Bool.and_eq_true] at h
    have := arcV_bd h.1 h.2
    simp; omega
/-- The degrees up to the next beginning. -/
def gapV (f g : Int) : Int := (g - f + 360) % 360
/-- The first k are sectors, with beginnings that rise. -/
def OkUpto (ps : List Sec) (k : Nat) : Prop := ∀ i, i < k → okSec (ps.getD i sec0) = true ∧ (0 < i → (ps.getD (i - 1) sec0).1 < (ps.getD i sec0).1)
def GapUpto (ps : List Sec) (k : Nat) : Prop := ∀ i, i < k → arcV (ps.getD i sec0).1 (ps.getD i sec0).2.1 ≤ gapV (ps.getD i sec0).1 (ps.getD ((i + 1) % ps.length) sec0).1
/-- Valid sectors. -/
def ValidS (ps : List Sec) : Prop := ps.length ≤ 12 ∧ OkUpto ps ps.length ∧ (1 < ps.length → GapUpto ps ps.length)
noncomputable def validS (ps : List Sec) : Bool := @decide (ValidS ps) (Classical.propDecidable _)
theorem validS_iff {ps : List Sec} : validS ps = true ↔ ValidS ps := by unfold validS; exact @decide_eq_true_iff _ (Classical.propDecidable _)
theorem validS_yes {ps : List Sec} (h : ValidS ps) : validS ps = true := validS_iff.2 h
theorem validS_no {ps : List Sec} (h : ¬ ValidS ps) : validS ps = false := by
  cases e : validS ps
  · rfl
  · exact absurd (validS_iff.1 e) h
theorem OkUpto.zero (ps : List Sec) : OkUpto ps 0 := fun i hi => by omega
theorem OkUpto.step {ps : List Sec} {k : Nat} (h : OkUpto ps k) (h1 : okSec (ps.getD k sec0) = true) (h2 : 0 < k → (ps.getD (k - 1) sec0).1 < (ps.getD k sec0).1) : OkUpto ps (k + 1) := by
  intro i hi
  by_cases e : i < k
  · exact h i e
  · obtain rfl : i = k := by omega
    exact ⟨h1, h2⟩
theorem GapUpto.zero (ps : List Sec) : GapUpto ps 0 := fun i hi => by omega
theorem GapUpto.step {ps : List Sec} {k : Nat} (h : GapUpto ps k) (h1 : arcV (ps.getD k sec0).1 (ps.getD k sec0).2.1 ≤ gapV (ps.getD k sec0).1 (ps.getD ((k + 1) % ps.length) sec0).1) : GapUpto ps (k + 1) := by
  intro i hi
  by_cases e : i < k
  · exact h i e
  · obtain rfl : i = k := by omega
    exact h1
theorem OkUpto.rise {ps : List Sec} {n : Nat} (h : OkUpto ps n) : ∀ (d i : Nat), i + d + 1 < n → (ps.getD i sec0).1 < (ps.getD (i + d + 1) sec0).1
  | 0, i, hi => by have := (h (i + 1) hi).2 (by omega); simpa using this
  | d + 1, i, hi => by
    have h1 := h.rise d i (by omega)
    have h2 := (h (i + (d + 1) + 1) hi).2 (by omega)
    rw [show i + (d + 1) + 1 - 1 = i + d + 1 by omega] at h2
    omega
theorem OkUpto.lt {ps : List Sec} {n i j : Nat} (h : OkUpto ps n) (hij : i < j) (hj : j < n) : (ps.getD i sec0).1 < (ps.getD j sec0).1 := by
  have := h.rise (j - i - 1) i (by omega)
  rwa [show i + (j - i - 1) + 1 = j by omega] at this
theorem okSec_ends {p : Sec} (h : okSec p = true) : (0 ≤ p.1 ∧ p.1 ≤ 359) ∧ 0 ≤ p.2.1 ∧ p.2.1 ≤ 359 := by
  simp only [okSec, endsB, Bool.and_eq_true, inD_iff] at h
  exact ⟨h.1.1, h.1.2⟩
theorem okSec_endsB {p : Sec} (h : okSec p = true) : endsB p = true := by
  simp only [okSec, Bool.and_eq_true] at h; exact h.1
theorem okSec_arc {p : Sec} (h : okSec p = true) : arcS p = arcV p.1 p.2.1 := by unfold arcS; rw [okSec_endsB h]; rfl
/-- The room that the program reckons: up to the next one. -/
def roomP (ps : List Sec) (i : Nat) : Int := arcS ((ps.getD i sec0).1, (ps.getD ((i + 1) % ps.length) sec0).1, ⟨#[]⟩)
/-- The program's test of the first k. -/
def ImpUpto (ps : List Sec) (k : Nat) : Prop := OkUpto ps k ∧ ∀ i, i < k → arcS (ps.getD i sec0) ≤ roomP ps i
theorem ImpUpto.zero (ps : List Sec) : ImpUpto ps 0 := ⟨OkUpto.zero ps, fun i hi => by omega⟩
theorem ImpUpto.step {ps : List Sec} {k : Nat} (h : ImpUpto ps k) (h1 : okSec (ps.getD k sec0) = true) (h2 : 0 < k → (ps.getD (k - 1) sec0).1 < (ps.getD k sec0).1) (h3 : arcS (ps.getD k sec0) ≤ roomP ps k) : ImpUpto ps (k + 1) := by
  refine ⟨h.1.step h1 h2, fun i hi => ?_⟩
  by_cases e : i < k
  · exact h.2 i e
  · obtain rfl : i = k := by omega
    exact h3
theorem next_ne {ps : List Sec} (h : OkUpto ps ps.length) {i : Nat} (hi : i < ps.length) (h1 : 1 < ps.length) : (ps.getD i sec0).1 ≠ (ps.getD ((i + 1) % ps.length) sec0).1 := by
  by_cases e : i + 1 < ps.length
  · rw [Nat.mod_eq_of_lt e]
    have := h.lt (show i < i + 1 by omega) e
    omega
  · obtain e2 : i + 1 = ps.length := by omega
    rw [e2, Nat.mod_self]
    have := h.lt (show 0 < i by omega) hi
    omega
theorem room_gap {ps : List Sec} (h : OkUpto ps ps.length) {i : Nat} (hi : i < ps.length) (h1 : 1 < ps.length) : roomP ps i = gapV (ps.getD i sec0).1 (ps.getD ((i + 1) % ps.length) sec0).1 := by
  have a := (h i hi).1
  have b := (h ((i + 1) % ps.length) (Nat.mod_lt _ (by omega))).1
  have n := next_ne h hi h1
  have a2 := okSec_ends a
  have b2 := okSec_ends b
  unfold roomP arcS arcV gapV
  have e : endsB ((ps.getD i sec0).1, (ps.getD ((i + 1) % ps.length) sec0).1, ⟨#[]⟩) = true := by
    simp only [endsB, Bool.and_eq_true, inD_iff]; exact ⟨a2.1, b2.1⟩
  rw [if_pos e, if_neg n]
theorem room_one {ps : List Sec} (h : OkUpto ps ps.length) (h1 : ps.length = 1) : roomP ps 0 = 360 := by
  have a := okSec_ends (h 0 (by omega)).1
  unfold roomP arcS arcV
  rw [h1]
  have e : endsB ((ps.getD 0 sec0).1, (ps.getD ((0 + 1) % 1) sec0).1, ⟨#[]⟩) = true := by
    simp only [endsB, Bool.and_eq_true, inD_iff]; exact ⟨a.1, a.1⟩
  rw [if_pos e]
  rw [if_pos rfl]
theorem valid_of_imp {ps : List Sec} (hl : ps.length ≤ 12) (h : ImpUpto ps ps.length) : ValidS ps := by
  refine ⟨hl, h.1, fun h1 i hi => ?_⟩
  have := h.2 i hi
  rw [room_gap h.1 hi h1, okSec_arc (h.1 i hi).1] at this
  exact this
theorem imp_of_valid {ps : List Sec} (h : ValidS ps) {i : Nat} (hi : i < ps.length) : arcS (ps.getD i sec0) ≤ roomP ps i := by
  by_cases h1 : 1 < ps.length
  · rw [room_gap h.2.1 hi h1, okSec_arc (h.2.1 i hi).1]
    exact h.2.2 h1 i hi
  · obtain rfl : i = 0 := by omega
    rw [room_one h.2.1 (by omega)]
    exact (arcS_bd _).2
theorem no_ok {ps : List Sec} {i : Nat} (hi : i < ps.length) (h : okSec (ps.getD i sec0) = false) : ¬ ValidS ps := fun hv => by
  have := (hv.2.1 i hi).1
  rw [h] at this; cases this
theorem no_rise {ps : List Sec} {i : Nat} (hi : i < ps.length) (h0 : 0 < i) (h : (ps.getD i sec0).1 ≤ (ps.getD (i - 1) sec0).1) : ¬ ValidS ps := fun hv => by
  have := (hv.2.1 i hi).2 h0
  omega
theorem no_room {ps : List Sec} {i : Nat} (hi : i < ps.length) (h : roomP ps i < arcS (ps.getD i sec0)) : ¬ ValidS ps := fun hv => by
  have := imp_of_valid hv hi
  omega
theorem no_gap {ps : List Sec} {i : Nat} (hi : i < ps.length) (h1 : 1 < ps.length) (h : gapV (ps.getD i sec0).1 (ps.getD ((i + 1) % ps.length) sec0).1 < arcV (ps.getD i sec0).1 (ps.getD i sec0).2.1) : ¬ ValidS ps := fun hv => by
  have := hv.2.2 h1 i hi
  omega
theorem no_long {ps : List Sec} (h : 12 < ps.length) : ¬ ValidS ps := fun hv => by have := hv.1; omega
theorem validS_nil : validS [] = true := validS_yes ⟨by decide, fun i hi => by simp at hi, fun h => by simp at h⟩

/-! The bearings of a sector. -/
def hasB (p : Sec) (b : Int) : Bool := decide ((b - p.1) % 360 < arcS p)
theorem has_within {ps : List Sec} (h : ValidS ps) {i : Nat} (hi : i + 1 < ps.length) {b : Int} (h0 : 0 ≤ b) (h1 : b ≤ 359) (hb : hasB (ps.getD i sec0) b = true) : (ps.getD i sec0).1 ≤ b ∧ b < (ps.getD (i + 1) sec0).1 := by
  have g := h.2.2 (by omega) i (by omega)
  have a := okSec_ends (h.2.1 i (by omega)).1
  have a2 := okSec_ends (h.2.1 (i + 1) hi).1
  have l := h.2.1.lt (show i < i + 1 by omega) hi
  simp only [hasB, decide_eq_true_eq] at hb
  rw [okSec_arc (h.2.1 i (by omega)).1] at hb
  rw [Nat.mod_eq_of_lt hi] at g
  unfold gapV at g
  omega
theorem has_last {ps : List Sec} (h : ValidS ps) {j : Nat} (hj : j + 1 = ps.length) (h2 : 1 < ps.length) {b : Int} (h0 : 0 ≤ b) (h1 : b ≤ 359) (hb : hasB (ps.getD j sec0) b = true) : (ps.getD j sec0).1 ≤ b ∨ b < (ps.getD 0 sec0).1 := by
  have g := h.2.2 (by omega) j (by omega)
  have a := okSec_ends (h.2.1 j (by omega)).1
  have a2 := okSec_ends (h.2.1 0 (by omega)).1
  have l := h.2.1.lt (show 0 < j by omega) (show j < ps.length by omega)
  simp only [hasB, decide_eq_true_eq] at hb
  rw [okSec_arc (h.2.1 j (by omega)).1] at hb
  rw [hj, Nat.mod_self] at g
  unfold gapV at g
  omega
/-- No two have a degree in common. -/
theorem has_one {ps : List Sec} (h : ValidS ps) {i j : Nat} (hij : i < j) (hj : j < ps.length) {b : Int} (h0 : 0 ≤ b) (h1 : b ≤ 359) (hi : hasB (ps.getD i sec0) b = true) : hasB (ps.getD j sec0) b = false := by
  cases e : hasB (ps.getD j sec0) b
  · rfl
  exfalso
  have hw := has_within h (show i + 1 < ps.length by omega) h0 h1 hi
  have le : (ps.getD (i + 1) sec0).1 ≤ (ps.getD j sec0).1 := by
    by_cases e2 : i + 1 = j
    · rw [e2]; exact Int.le_refl _
    · have := h.2.1.lt (show i + 1 < j by omega) hj; omega
  by_cases e3 : j + 1 < ps.length
  · have := has_within h e3 h0 h1 e; omega
  · rcases has_last h (show j + 1 = ps.length by omega) (by omega) h0 h1 e with h3 | h3
    · omega
    · by_cases e4 : i = 0
      · subst e4; omega
      · have := h.2.1.lt (show 0 < i by omega) (show i < ps.length by omega); omega
/-- The color of a bearing: of the first sector that has it. -/
def firstC (ps : List Sec) (b : Int) : ByteArray := match ps.find? (fun p => hasB p b) with | some p => p.2.2 | none => ⟨#[]⟩
/-- The color of a bearing on the painted circle: of the last one. -/
def paintC (ps : List Sec) (b : Int) : ByteArray := ps.foldl (fun c p => if hasB p b then p.2.2 else c) ⟨#[]⟩
theorem paint_snoc (ps : List Sec) (p : Sec) (b : Int) : paintC (ps ++ [p]) b = if hasB p b then p.2.2 else paintC ps b := by simp [paintC]
theorem paint_none : ∀ {ps : List Sec} {c : ByteArray} {b : Int}, (∀ p ∈ ps, hasB p b = false) → ps.foldl (fun c p => if hasB p b then p.2.2 else c) c = c
  | [], _, _, _ => rfl
  | p :: ps, c, b, h => by
    rw [List.foldl_cons, h p (by simp)]
    exact paint_none fun q hq => h q (by simp [hq])
theorem first_paint {b : Int} : ∀ {ps : List Sec} {c : ByteArray}, (∀ i j, i < j → j < ps.length → hasB (ps.getD i sec0) b = true → hasB (ps.getD j sec0) b = false) → (match ps.find? (fun p => hasB p b) with | some p => p.2.2 | none => c) = ps.foldl (fun c p => if hasB p b then p.2.2 else c) c
  | [], _, _ => rfl
  | p :: ps, c, h => by
    rw [List.find?_cons, List.foldl_cons]
    cases hp : hasB p b
    · simp only [Bool.false_eq_true, if_false]
      exact first_paint fun i j hij hj hi => by
        have := h (i + 1) (j + 1) (by omega) (by simpa using hj) (by simpa using hi)
        simpa using this
    · simp only [if_true]
      rw [paint_none]
      intro q hq
      obtain ⟨j, hj, rfl⟩ := List.getElem_of_mem hq
      have := h 0 (j + 1) (by omega) (by simpa using hj) (by simpa using hp)
      simpa [hj] using this
theorem first_is {ps : List Sec} (h : ValidS ps) {b : Int} (h0 : 0 ≤ b) (h1 : b ≤ 359) : firstC ps b = paintC ps b :=
  first_paint fun _ _ hij hj hi => has_one h hij hj h0 h1 hi
end Go.Proofs.YtlelcecbpahliaaGreatDoor
