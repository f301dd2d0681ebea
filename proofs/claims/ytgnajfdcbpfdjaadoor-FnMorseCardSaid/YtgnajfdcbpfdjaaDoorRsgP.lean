/- Reading a signal: the model, no Go in sight. -/
import Derived.Test.YtgnajfdcbpfdjaaDoorSplX
import Derived.Test.YtgnajfdcbpfdjaaDoorPhsC
import Derived.Test.YtgnajfdcbpfdjaaDoorPhs
import Derived.Test.YtgnajfdcbpfdjaaDoorMorM
namespace Go.Proofs.YtgnajfdcbpfdjaaDoor
open Go.ChangeShapes Go.WideShapes Go.ChangeAt Go.RowKit Pm

/-- The part of a spelling that a phase stands for. -/
def prtO (p : Ph) (u : Int) : Option (List UInt8) :=
  if colB p.1 = true ∧ p.2 = 1 * u then some [46] else if colB p.1 = true ∧ p.2 = 3 * u then some [45]
  else if p.1.toList.isEmpty = true ∧ p.2 = 1 * u then some [] else if p.1.toList.isEmpty = true ∧ p.2 = 3 * u then some [32]
  else if p.1.toList.isEmpty = true ∧ p.2 = 7 * u then some [32, 47, 32] else none
theorem col_empty {s : ByteArray} (h : s.toList.isEmpty = true) : colB s = false := by
  unfold colB
  cases e : s.toList with
  | nil => rfl
  | cons a l => rw [e] at h; cases h
def partL (u : Int) (p : Ph) : List UInt8 := (prtO p u).getD []
def splL (ps : List Ph) (u : Int) : List UInt8 := ps.flatMap (partL u)
/-- Is a phase a sign or a pause, where it stands? -/
def okP (ps : List Ph) (u : Int) (i : Nat) : Bool := (prtO (ps.getD i ph0) u).isSome && ((ps.getD i ph0).1.toList.isEmpty == decide (i % 2 = 1))
def OkAll (ps : List Ph) (u : Int) : Prop := ps.length % 2 = 1 ∧ ∀ i, i < ps.length → okP ps u i = true
open Classical in
noncomputable def splE (ps : List Ph) (u : Int) : List UInt8 := if OkAll ps u then splL ps u else []
theorem splE_yes {ps : List Ph} {u : Int} (h : OkAll ps u) : splE ps u = splL ps u := if_pos h
theorem splE_no {ps : List Ph} {u : Int} (h : ¬ OkAll ps u) : splE ps u = [] := if_neg h
theorem splL_take {ps : List Ph} {u : Int} {k : Nat} (h : k < ps.length) : splL (ps.take (k + 1)) u = splL (ps.take k) u ++ partL u (ps.getD k ph0) := by
  unfold splL
  rw [ph_take ps k h, List.flatMap_append]; simp
/-- A letter, or a blank. -/
def findL (c : List UInt8) : Option (List UInt8) := (findN ⟨c.toArray⟩).map fun r => [UInt8.ofNat (65 + r)]
def let1 (c : List UInt8) : Option (List UInt8) := if c = [47] then some [32] else findL c
def letF (a : Option (List UInt8)) (c : List UInt8) : Option (List UInt8) := a.bind fun o => (let1 c).map (o ++ ·)
def lets (P : List (List UInt8)) : Option (List UInt8) := P.foldl letF (some [])
theorem lets_snoc (P : List (List UInt8)) (c : List UInt8) : lets (P ++ [c]) = letF (lets P) c := by unfold lets; rw [List.foldl_append]; rfl
theorem fold_none : ∀ Q : List (List UInt8), Q.foldl letF none = none
  | [] => rfl
  | _ :: Q => fold_none Q
theorem lets_none (P Q : List (List UInt8)) (h : lets P = none) : lets (P ++ Q) = none := by
  unfold lets at *; rw [List.foldl_append, h]; exact fold_none Q
theorem let1_len {c o : List UInt8} (h : let1 c = some o) : o.length = 1 := by
  unfold let1 at h
  split at h
  · cases h; rfl
  · unfold findL at h
    cases e : findN ⟨c.toArray⟩ with
    | none => rw [e] at h; cases h
    | some r => rw [e] at h; cases h; rfl
theorem lets_len : ∀ (P : List (List UInt8)) (a o : List UInt8), P.foldl letF (some a) = some o → o.length = a.length + P.length
  | [], a, o, h => by cases h; rfl
  | c :: P, a, o, h => by
    rw [List.foldl_cons] at h
    cases e : let1 c with
    | none => rw [show letF (some a) c = none by unfold letF; rw [e]; rfl, fold_none] at h; cases h
    | some x =>
      rw [show letF (some a) c = some (a ++ x) by unfold letF; rw [e]; rfl] at h
      have := lets_len P _ o h
      rw [List.length_append, let1_len e] at this
      rw [this, List.length_cons]; omega
/-- The text of a spelling. -/
def txtO (s : List UInt8) : Option (List UInt8) := if (cutAt 32 s).length ≤ 12 then lets (cutAt 32 s) else none
theorem txtO_nil : txtO [] = none := by decide
/-- Pieces of two texts in a row. -/
theorem cutAt_app (c : UInt8) (m r : List UInt8) (R : List (List UInt8)) (hm : cutAt c m = r :: R) : ∀ (l : List UInt8) (Q : List (List UInt8)) (p : List UInt8), cutAt c l = Q ++ [p] → cutAt c (l ++ m) = Q ++ (p ++ r) :: R
  | [], Q, p, h => by
    have : Q = [] ∧ p = [] := by
      cases Q with
      | nil => simp [cutAt] at h; exact ⟨rfl, h⟩
      | cons a Q => simp [cutAt] at h
    rw [this.1, this.2]; simpa using hm
  | x :: l, Q, p, h => by
    rw [List.cons_append, cutAt]
    rw [cutAt] at h
    by_cases hx : x = c
    · rw [if_pos hx] at h ⊢
      cases Q with
      | nil =>
        simp at h
        exact absurd h.2 (cutAt_ne c l)
      | cons a Q =>
        rw [List.cons_append, List.cons.injEq] at h
        rw [cutAt_app c m r R hm l Q p h.2, ← h.1]; rfl
    · rw [if_neg hx] at h ⊢
      cases e : cutAt c l with
      | nil => exact absurd e (cutAt_ne c l)
      | cons a A =>
        rw [e] at h
        simp only [glue] at h
        cases Q with
        | nil =>
          simp at h
          have hA : cutAt c l = [] ++ [a] := by rw [e, h.2]; rfl
          rw [cutAt_app c m r R hm l [] a hA, ← h.1]; rfl
        | cons q Q =>
          rw [List.cons_append, List.cons.injEq] at h
          have hA : cutAt c l = (a :: Q) ++ [p] := by rw [e, h.2]; rfl
          rw [cutAt_app c m r R hm l (a :: Q) p hA, ← h.1]; rfl
theorem cut_pre (c : UInt8) (l m : List UInt8) (Q : List (List UInt8)) (p : List UInt8) (h : cutAt c l = Q ++ [p]) : ∃ r R, cutAt c (l ++ m) = Q ++ (p ++ r) :: R := by
  cases e : cutAt c m with
  | nil => exact absurd e (cutAt_ne c m)
  | cons r R => exact ⟨r, R, cutAt_app c m r R e l Q p h⟩
theorem splL_pre (ps : List Ph) (u : Int) (k : Nat) : ∃ m, splL ps u = splL (ps.take k) u ++ m := by
  refine ⟨splL (ps.drop k) u, ?_⟩
  unfold splL
  rw [← List.flatMap_append, List.take_append_drop]
/-- What the model's loop knows, k phases on. -/
structure RdAt (ps : List Ph) (u : Int) (k : Nat) (code out : List UInt8) : Prop where
  ok : ∀ i, i < k → okP ps u i = true
  cut : ∃ Q, cutAt 32 (splL (ps.take k) u) = Q ++ [code] ∧ lets Q = some out
  text : ∃ b, ∀ r, okF true (out ++ r) = okF b r
  signs : ∀ x ∈ code, x = 46 ∨ x = 45
  clen : code.length ≤ k
theorem RdAt.start (ps : List Ph) (u : Int) : RdAt ps u 0 [] [] :=
  ⟨fun i h => by omega, ⟨[], rfl, rfl⟩, ⟨true, fun r => rfl⟩, fun x h => absurd h (List.not_mem_nil), Nat.zero_le _⟩
theorem signs_ne {code : List UInt8} (h : ∀ x ∈ code, x = 46 ∨ x = 45) : code ≠ [47] := fun e => by
  rw [e] at h
  rcases h 47 (by simp) with h | h <;> cases h
theorem findL_cap {c o : List UInt8} (h : findL c = some o) : ∃ x : UInt8, o = [x] ∧ x ≠ 32 ∧ capB x = true := by
  unfold findL at h
  cases e : findN ⟨c.toArray⟩ with
  | none => rw [e] at h; cases h
  | some r =>
    rw [e] at h; cases h
    have hr := (findN_some e).1
    have key : ∀ r, r < 26 → (UInt8.ofNat (65 + r)) ≠ 32 ∧ capB (UInt8.ofNat (65 + r)) = true := by decide
    exact ⟨_, rfl, (key r hr).1, (key r hr).2⟩
theorem RdAt.ok_snoc {ps : List Ph} {u : Int} {k : Nat} {code out : List UInt8} (h : RdAt ps u k code out) (hp : okP ps u k = true) : ∀ i, i < k + 1 → okP ps u i = true := fun i hi => by
  by_cases e : i < k
  · exact h.ok i e
  · obtain rfl : i = k := by omega
    exact hp
/-- A sign more. -/
theorem RdAt.sign {ps : List Ph} {u : Int} {k : Nat} {code out : List UInt8} {x : UInt8} (h : RdAt ps u k code out) (hk : k < ps.length) (hp : okP ps u k = true) (hx : x = 46 ∨ x = 45) (hpt : partL u (ps.getD k ph0) = [x]) : RdAt ps u (k + 1) (code ++ [x]) out := by
  obtain ⟨Q, h1, h2⟩ := h.cut
  have hm : cutAt 32 [x] = [x] :: [] := by rcases hx with rfl | rfl <;> rfl
  refine ⟨h.ok_snoc hp, ⟨Q, ?_, h2⟩, h.text, fun y hy => ?_, ?_⟩
  · rw [splL_take hk, hpt, cutAt_app 32 [x] [x] [] hm _ Q code h1]
  · rcases List.mem_append.1 hy with hy | hy
    · exact h.signs y hy
    · rw [List.mem_singleton] at hy; rw [hy]; exact hx
  · rw [List.length_append]; have := h.clen; simp; omega
/-- A pause between signs. -/
theorem RdAt.pause1 {ps : List Ph} {u : Int} {k : Nat} {code out : List UInt8} (h : RdAt ps u k code out) (hk : k < ps.length) (hp : okP ps u k = true) (hpt : partL u (ps.getD k ph0) = []) : RdAt ps u (k + 1) code out := by
  refine ⟨h.ok_snoc hp, ?_, h.text, h.signs, Nat.le_succ_of_le h.clen⟩
  rw [splL_take hk, hpt, List.append_nil]; exact h.cut
/-- A pause between letters. -/
theorem RdAt.pause3 {ps : List Ph} {u : Int} {k : Nat} {code out o : List UInt8} (h : RdAt ps u k code out) (hk : k < ps.length) (hp : okP ps u k = true) (hpt : partL u (ps.getD k ph0) = [32]) (hf : findL code = some o) : RdAt ps u (k + 1) [] (out ++ o) := by
  obtain ⟨Q, h1, h2⟩ := h.cut
  obtain ⟨b, hb⟩ := h.text
  obtain ⟨x, rfl, hx1, hx2⟩ := findL_cap hf
  refine ⟨h.ok_snoc hp, ⟨Q ++ [code], ?_, ?_⟩, ⟨false, fun r => ?_⟩, fun x h => absurd h (List.not_mem_nil), Nat.zero_le _⟩
  · rw [splL_take hk, hpt, cutAt_app 32 [32] [] [[]] rfl _ Q code h1]; simp
  · rw [lets_snoc, h2]; unfold letF let1; rw [if_neg (signs_ne h.signs), hf]; rfl
  · rw [List.append_assoc, hb, List.singleton_append, okF_cons, if_neg hx1, hx2]; rfl
/-- A pause between words. -/
theorem RdAt.pause7 {ps : List Ph} {u : Int} {k : Nat} {code out o : List UInt8} (h : RdAt ps u k code out) (hk : k < ps.length) (hp : okP ps u k = true) (hpt : partL u (ps.getD k ph0) = [32, 47, 32]) (hf : findL code = some o) : RdAt ps u (k + 1) [] (out ++ o ++ [32]) := by
  obtain ⟨Q, h1, h2⟩ := h.cut
  obtain ⟨b, hb⟩ := h.text
  obtain ⟨x, rfl, hx1, hx2⟩ := findL_cap hf
  have h3 : lets (Q ++ [code]) = some (out ++ [x]) := by rw [lets_snoc, h2]; unfold letF let1; rw [if_neg (signs_ne h.signs), hf]; rfl
  refine ⟨h.ok_snoc hp, ⟨Q ++ [code] ++ [[47]], ?_, ?_⟩, ⟨true, fun r => ?_⟩, fun x h => absurd h (List.not_mem_nil), Nat.zero_le _⟩
  · rw [splL_take hk, hpt, cutAt_app 32 [32, 47, 32] [] [[47], []] rfl _ Q code h1]; simp
  · rw [lets_snoc, h3]; rfl
  · rw [List.append_assoc, List.append_assoc, hb, List.singleton_append, okF_cons, if_neg hx1, hx2, List.singleton_append, okF_cons, if_pos rfl]; rfl
/-- No letter ahead of a pause, or at the end: no text. -/
theorem RdAt.no_letter {ps : List Ph} {u : Int} {k : Nat} {code out m : List UInt8} {R : List (List UInt8)} (h : RdAt ps u k code out) (hk : k < ps.length) (hpt : partL u (ps.getD k ph0) = m) (hm : cutAt 32 m = [] :: R) (hR : R ≠ []) (hf : findL code = none) : txtO (splE ps u) = none := by
  by_cases ha : OkAll ps u
  · rw [splE_yes ha]
    obtain ⟨Q, h1, h2⟩ := h.cut
    have h3 : lets (Q ++ [code]) = none := by rw [lets_snoc, h2]; unfold letF let1; rw [if_neg (signs_ne h.signs), hf]; rfl
    have h4 : cutAt 32 (splL (ps.take (k + 1)) u) = (Q ++ [code]) ++ R := by
      rw [splL_take hk, hpt, cutAt_app 32 m [] R hm _ Q code h1]; simp
    obtain ⟨R', z, rfl⟩ : ∃ R' z, R = R' ++ [z] := ⟨R.dropLast, R.getLast hR, (List.dropLast_concat_getLast hR).symm⟩
    obtain ⟨t, ht⟩ := splL_pre ps u (k + 1)
    rw [← List.append_assoc] at h4
    obtain ⟨r, RR, h5⟩ := cut_pre 32 _ t _ z h4
    unfold txtO
    rw [ht, h5, List.append_assoc, List.append_assoc]
    split
    · rw [← List.append_assoc]; exact lets_none _ _ h3
    · rfl
  · rw [splE_no ha]; exact txtO_nil
theorem txt_bad {ps : List Ph} {u : Int} {k : Nat} (hk : k < ps.length) (h : okP ps u k = false) : txtO (splE ps u) = none := by
  rw [splE_no (fun ha => by rw [ha.2 k hk] at h; cases h)]; exact txtO_nil
theorem txt_even {ps : List Ph} {u : Int} (h : ps.length % 2 = 0) : txtO (splE ps u) = none := by
  rw [splE_no (fun ha => by have := ha.1; omega)]; exact txtO_nil
/-- At the end: the last letter. -/
theorem RdAt.last {ps : List Ph} {u : Int} {code out : List UInt8} (h : RdAt ps u ps.length code out) (hodd : ps.length % 2 = 1) :
    (findL code = none → txtO (splE ps u) = none) ∧ ∀ o, findL code = some o → okF true (out ++ o) = true ∧ txtO (splE ps u) = if (out ++ o).length ≤ 12 then some (out ++ o) else none := by
  obtain ⟨Q, h1, h2⟩ := h.cut
  rw [List.take_of_length_le (Nat.le_refl _)] at h1
  have ha : OkAll ps u := ⟨hodd, h.ok⟩
  have h3 : lets (Q ++ [code]) = (findL code).map (out ++ ·) := by rw [lets_snoc, h2]; unfold letF let1; rw [if_neg (signs_ne h.signs)]; rfl
  constructor
  · intro hf
    unfold txtO
    rw [splE_yes ha, h1, h3, hf]
    split <;> rfl
  · intro o hf
    obtain ⟨b, hb⟩ := h.text
    obtain ⟨x, rfl, hx1, hx2⟩ := findL_cap hf
    refine ⟨by rw [hb, okF_cons, if_neg hx1, hx2]; rfl, ?_⟩
    have hl : (out ++ [x]).length = (Q ++ [code]).length := by
      have h4 : (Q ++ [code]).foldl letF (some []) = some (out ++ [x]) := by rw [show (Q ++ [code]).foldl letF (some []) = lets (Q ++ [code]) from rfl, h3, hf]; rfl
      have := lets_len _ _ _ h4
      simpa using this
    unfold txtO
    rw [splE_yes ha, h1, h3, hf, hl]; rfl
/-- What is read, and the code. -/
noncomputable def rdT (ps : List Ph) (u : Int) : ByteArray := if 1 ≤ u ∧ u ≤ 50 then ⟨((txtO (splE ps u)).getD []).toArray⟩ else ⟨#[]⟩
noncomputable def rdC (ps : List Ph) (u : Int) : Int := if 1 ≤ u ∧ u ≤ 50 then (if (txtO (splE ps u)).isSome then 0 else 9) else 2
end Go.Proofs.YtgnajfdcbpfdjaaDoor
