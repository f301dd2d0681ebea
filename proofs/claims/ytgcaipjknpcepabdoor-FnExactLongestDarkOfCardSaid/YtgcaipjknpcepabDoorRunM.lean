/- The runs of a list of bytes, as phases. -/
import Derived.Test.YtgcaipjknpcepabDoorNam
import Derived.Test.YtgcaipjknpcepabDoorPerM
namespace Go.Proofs.YtgcaipjknpcepabDoor
open Go.ChangeShapes Go.WideShapes Go.ChangeAt Go.RowKit Pm

def consR (x : UInt8) : List (UInt8 × Nat) → List (UInt8 × Nat)
  | [] => [(x, 1)]
  | (d, m) :: t => if d = x then (d, m + 1) :: t else (x, 1) :: (d, m) :: t
def runL : List UInt8 → List (UInt8 × Nat)
  | [] => []
  | x :: r => consR x (runL r)
def bumpR (c : UInt8) : List (UInt8 × Nat) → List (UInt8 × Nat)
  | [] => [(c, 1)]
  | [(d, m)] => if d = c then [(d, m + 1)] else [(d, m), (c, 1)]
  | x :: y :: t => x :: bumpR c (y :: t)
theorem consR_same (x : UInt8) (m : Nat) (t : List (UInt8 × Nat)) : consR x ((x, m) :: t) = (x, m + 1) :: t := by simp [consR]
theorem consR_ne {x d : UInt8} (h : d ≠ x) (m : Nat) (t : List (UInt8 × Nat)) : consR x ((d, m) :: t) = (x, 1) :: (d, m) :: t := by simp [consR, h]
theorem bumpR_same (c : UInt8) (m : Nat) : bumpR c [(c, m)] = [(c, m + 1)] := by simp [bumpR]
theorem bumpR_ne {c d : UInt8} (h : d ≠ c) (m : Nat) : bumpR c [(d, m)] = [(d, m), (c, 1)] := by simp [bumpR, h]
theorem consR_bump (x c : UInt8) : ∀ R : List (UInt8 × Nat), consR x (bumpR c R) = bumpR c (consR x R)
  | [] => by
    simp only [bumpR, consR]
    by_cases e : c = x
    · subst e; simp
    · rw [if_neg e, if_neg (fun q => e q.symm)]
  | [(d, m)] => by
    by_cases e : d = c
    · subst e
      rw [bumpR_same]
      by_cases f : d = x
      · subst f
        rw [consR_same, consR_same, bumpR_same]
      · rw [consR_ne f, consR_ne f]
        show _ = (x, 1) :: bumpR d [(d, m)]
        rw [bumpR_same]
    · rw [bumpR_ne e]
      by_cases f : d = x
      · subst f
        rw [consR_same, consR_same, bumpR_ne e]
      · rw [consR_ne f, consR_ne f]
        show _ = (x, 1) :: bumpR c [(d, m)]
        rw [bumpR_ne e]
  | (d, m) :: y :: t => by
    show consR x ((d, m) :: bumpR c (y :: t)) = _
    by_cases f : d = x
    · subst f
      rw [consR_same, consR_same]; rfl
    · rw [consR_ne f, consR_ne f]; rfl
theorem runL_snoc (c : UInt8) : ∀ l : List UInt8, runL (l ++ [c]) = bumpR c (runL l)
  | [] => rfl
  | x :: l => by
    rw [List.cons_append]
    show consR x (runL (l ++ [c])) = bumpR c (consR x (runL l))
    rw [runL_snoc c l, consR_bump]
theorem runL_exp : ∀ l : List UInt8, (runL l).flatMap (fun r => List.replicate r.2 r.1) = l
  | [] => rfl
  | x :: l => by
    have ih := runL_exp l
    show (consR x (runL l)).flatMap _ = _
    generalize runL l = R at ih
    match R, ih with
    | [], ih => rw [← ih]; rfl
    | (d, m) :: t, ih =>
      by_cases e : d = x
      · subst e
        rw [consR_same, ← ih, List.flatMap_cons, List.flatMap_cons, List.replicate_succ, List.cons_append]
      · rw [consR_ne e, List.flatMap_cons, ih]; rfl
theorem runL_head (c : UInt8) (l : List UInt8) : ∃ m t, runL (c :: l) = (c, m + 1) :: t := by
  show ∃ m t, consR c (runL l) = _
  cases runL l with
  | nil => exact ⟨0, [], rfl⟩
  | cons r t =>
    obtain ⟨d, m⟩ := r
    by_cases e : d = c
    · subst e
      exact ⟨m, t, consR_same _ _ _⟩
    · exact ⟨0, _, consR_ne e _ _⟩
/-- A whole run in front. -/
theorem runL_rep (c : UInt8) (r : List UInt8) (h : ∀ x t, r = x :: t → x ≠ c) : ∀ m, runL (List.replicate (m + 1) c ++ r) = (c, m + 1) :: runL r
  | 0 => by
    show consR c (runL r) = _
    cases r with
    | nil => rfl
    | cons d t =>
      obtain ⟨k, u, e⟩ := runL_head d t
      rw [e, consR_ne (h d t rfl)]
  | m + 1 => by
    rw [List.replicate_succ, List.cons_append]
    show consR c (runL _) = _
    rw [runL_rep c r h m, consR_same]
theorem runL_map {f : UInt8 → UInt8} : ∀ {l : List UInt8}, (∀ x ∈ l, ∀ y ∈ l, f x = f y → x = y) → runL (l.map f) = (runL l).map (fun r => (f r.1, r.2))
  | [], _ => rfl
  | [x], _ => rfl
  | x :: y :: l, h => by
    have ih := runL_map (f := f) (l := y :: l) (fun a ha b hb => h a (by simp [ha]) b (by simp [hb]))
    show consR (f x) (runL ((y :: l).map f)) = (consR x (runL (y :: l))).map _
    rw [ih]
    obtain ⟨m, t, e⟩ := runL_head y l
    rw [e]
    show consR (f x) ((f y, m + 1) :: _) = _
    by_cases q : y = x
    · subst q
      rw [consR_same, consR_same]; rfl
    · rw [consR_ne (fun z => q (h y (by simp) x (by simp) z)), consR_ne q]; rfl
/-- Runs as phases: of the model's bytes. -/
def phsR (l : List UInt8) : List Ph := (runL l).map (fun r => (nameV r.1, (r.2 : Int)))
theorem nameV_inj {a b : UInt8} (h : nameV a = nameV b) : a = b := by
  unfold nameV at h
  split at h <;> split at h
  · rename_i e f; rw [e, f]
  · simp at h
  · simp at h
  · simpa using h
theorem phsR_inj {a b : List UInt8} (h : phsR a = phsR b) : a = b := by
  have e : runL a = runL b := by
    unfold phsR at h
    generalize runL a = R at h
    generalize runL b = S at h
    induction R generalizing S with
    | nil => cases S with
      | nil => rfl
      | cons _ _ => simp at h
    | cons x R ih => cases S with
      | nil => simp at h
      | cons y S =>
        rw [List.map_cons, List.map_cons, List.cons.injEq, Prod.mk.injEq] at h
        obtain ⟨⟨h1, h2⟩, h3⟩ := h
        have e1 := nameV_inj h1
        have e2 : x.2 = y.2 := by omega
        rw [ih S h3]
        congr 1
        exact Prod.ext e1 e2
  rw [← runL_exp a, ← runL_exp b, e]
/-- One more byte. -/
def bumpP (x : ByteArray) (ps : List Ph) : List Ph := if ps.getLast?.map (·.1) = some x then ps.dropLast ++ [(x, (ps.getLast?.map (·.2)).getD 0 + 1)] else ps ++ [(x, 1)]
theorem bumpP_nil (x : ByteArray) : bumpP x [] = [(x, 1)] := by simp [bumpP]
theorem bumpP_same (x : ByteArray) (ps : List Ph) (n : Int) : bumpP x (ps ++ [(x, n)]) = ps ++ [(x, n + 1)] := by simp [bumpP]
theorem bumpP_other (x y : ByteArray) (ps : List Ph) (n : Int) (h : y ≠ x) : bumpP x (ps ++ [(y, n)]) = ps ++ [(y, n)] ++ [(x, 1)] := by simp [bumpP, h]
theorem phsR_bump (c : UInt8) : ∀ R : List (UInt8 × Nat), (bumpR c R).map (fun r => (nameV r.1, (r.2 : Int))) = bumpP (nameV c) (R.map (fun r => (nameV r.1, (r.2 : Int))))
  | [] => by rw [List.map_nil, bumpP_nil]; rfl
  | [(d, m)] => by
    show _ = bumpP (nameV c) ([] ++ [(nameV d, (m : Int))])
    by_cases e : d = c
    · subst e
      rw [bumpP_same]
      rw [bumpR_same]; rfl
    · rw [bumpP_other _ _ _ _ (fun q => e (nameV_inj q)), bumpR_ne e]; rfl
  | x :: y :: t => by
    have ih := phsR_bump c (y :: t)
    show (nameV x.1, (x.2 : Int)) :: _ = _
    rw [ih]
    generalize hq : ((y :: t).map (fun r : UInt8 × Nat => ((nameV r.1, (r.2 : Int)) : Ph))) = q
    have hne : q ≠ [] := by rw [← hq]; simp
    rw [List.map_cons, hq]
    rw [← List.dropLast_concat_getLast hne]
    generalize q.dropLast = p
    generalize q.getLast hne = z
    obtain ⟨z1, z2⟩ := z
    by_cases e : z1 = nameV c
    · subst e
      rw [bumpP_same, show (nameV x.1, (x.2 : Int)) :: (p ++ [(nameV c, z2)]) = ((nameV x.1, (x.2 : Int)) :: p) ++ [(nameV c, z2)] from rfl, bumpP_same]; rfl
    · rw [bumpP_other _ _ _ _ e, show (nameV x.1, (x.2 : Int)) :: (p ++ [(z1, z2)]) = ((nameV x.1, (x.2 : Int)) :: p) ++ [(z1, z2)] from rfl, bumpP_other _ _ _ _ e]; rfl
theorem phsR_snoc (l : List UInt8) (c : UInt8) : phsR (l ++ [c]) = bumpP (nameV c) (phsR l) := by
  unfold phsR; rw [runL_snoc, phsR_bump]
theorem bumpP_len (x : ByteArray) (ps : List Ph) : (bumpP x ps).length ≤ ps.length + 1 := by
  unfold bumpP; split
  · simp
  · simp
theorem phsR_len : ∀ l : List UInt8, (phsR l).length ≤ l.length := by
  intro l
  unfold phsR
  rw [List.length_map]
  induction l with
  | nil => simp [runL]
  | cons x l ih =>
    show (consR x (runL l)).length ≤ _
    generalize runL l = R at ih
    cases R with
    | nil => simp [consR]
    | cons r t =>
      obtain ⟨d, m⟩ := r
      rw [List.length_cons] at ih
      by_cases e : d = x
      · subst e
        rw [consR_same, List.length_cons, List.length_cons]; omega
      · rw [consR_ne e, List.length_cons, List.length_cons, List.length_cons]; omega
theorem phsR_pos (l : List UInt8) (h : 1 ≤ l.length) : 1 ≤ (phsR l).length := by
  cases l with
  | nil => simp at h
  | cons x l =>
    obtain ⟨m, t, e⟩ := runL_head x l
    unfold phsR
    rw [e]; simp
theorem runL_bnd : ∀ l : List UInt8, ∀ r ∈ runL l, 1 ≤ r.2 ∧ r.2 ≤ l.length
  | [], r, h => by simp [runL] at h
  | x :: l, r, h => by
    have ih := runL_bnd l
    have h' : r ∈ consR x (runL l) := h
    generalize runL l = R at ih h'
    rw [List.length_cons]
    match R, ih, h' with
    | [], _, h' =>
      simp [consR] at h'
      subst h'
      exact ⟨Nat.le_refl _, by simp⟩
    | (d, m) :: t, ih, h' =>
      by_cases e : d = x
      · subst e
        rw [consR_same] at h'
        rcases List.mem_cons.1 h' with q | q
        · subst q
          have := ih (d, m) (by simp)
          simp only at this ⊢
          omega
        · have := ih r (by simp [q])
          omega
      · rw [consR_ne e] at h'
        rcases List.mem_cons.1 h' with q | q
        · subst q
          exact ⟨Nat.le_refl _, by simp⟩
        · have := ih r q
          omega
theorem phsR_bnd (l : List UInt8) : ∀ p ∈ phsR l, 1 ≤ p.2 ∧ p.2 ≤ (l.length : Int) := by
  intro p hp
  unfold phsR at hp
  obtain ⟨r, hr, rfl⟩ := List.mem_map.1 hp
  have := runL_bnd l r hr
  simp only
  omega
end Go.Proofs.YtgcaipjknpcepabDoor
