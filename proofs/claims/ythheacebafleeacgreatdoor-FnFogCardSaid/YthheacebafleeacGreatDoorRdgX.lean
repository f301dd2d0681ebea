/- Reading a fog signal's text. No Go in sight. What a text is read as, as a fog signal. No Go in sight. -/
import Derived.Test.YthheacebafleeacGreatDoorFgtM
import Derived.Test.YthheacebafleeacGreatDoorPrtX
import Derived.Test.YthheacebafleeacGreatDoorNumX
import Derived.Lib.IndexMore
import Derived.Lib.IndexBytes
import Derived.Lib.Strings
namespace Go.Proofs.YthheacebafleeacGreatDoor
open Go.ChangeShapes Go.WideShapes Go.ChangeAt Go.RowKit Pm

/-! ### Bytes -/
theorem fit_dig {n : Int} (h0 : 0 ≤ n) : Lib.itoa n = Lib.decDigits n.toNat := by unfold Lib.itoa; rw [if_neg (by omega)]
theorem fit_facts {n : Int} (h0 : 0 ≤ n) : (Lib.itoa n).all isD = true ∧ Lib.itoa n ≠ [] ∧ (dv 0 (Lib.itoa n) : Int) = n := by
  rw [fit_dig h0]
  obtain ⟨f1, f2, f3, _⟩ := dec_facts n.toNat n.toNat (Nat.le_refl _)
  exact ⟨f2, f3, by rw [f1]; omega⟩
theorem fno_digit {c : UInt8} {l : List UInt8} (hc : isD c = false) (h : l.all isD = true) : c ∉ l := fun hm => by
  have := List.all_eq_true.1 h c hm
  rw [hc] at this; cases this
theorem ftrim_hit (l : List UInt8) (c : UInt8) : Lib.trimSuffix (l ++ [c]) [c] = l := by
  unfold Lib.trimSuffix Lib.hasSuffix
  rw [if_pos (by rw [List.isSuffixOf_iff_suffix]; exact List.suffix_append l [c])]
  simp
theorem ftrim_miss (l : List UInt8) (c : UInt8) (h : c ∉ l) : Lib.trimSuffix l [c] = l := by
  unfold Lib.trimSuffix Lib.hasSuffix
  rw [if_neg]
  rw [List.isSuffixOf_iff_suffix]
  rintro ⟨t, ht⟩
  exact h (by rw [← ht]; simp)
theorem fidx_hit (r : List UInt8) (c : UInt8) : ∀ l : List UInt8, c ∉ l → Lib.indexByte (l ++ c :: r) c = l.length
  | [], _ => by simp [Lib.indexByte]
  | x :: l, h => by
    have hx : (x == c) = false := by rw [beq_eq_false_iff_ne]; rintro rfl; exact h (by simp)
    have ih := fidx_hit r c l (fun hm => h (by simp [hm]))
    have hne : ((l.length : Int) == -1) = false := by rw [beq_eq_false_iff_ne]; omega
    rw [List.cons_append, Lib.indexByte, hx, ih, hne]
    simp
theorem fidx_miss (c : UInt8) : ∀ l : List UInt8, c ∉ l → Lib.indexByte l c = -1
  | [], _ => rfl
  | x :: l, h => by
    have hx : (x == c) = false := by rw [beq_eq_false_iff_ne]; rintro rfl; exact h (by simp)
    have ih := fidx_miss c l (fun hm => h (by simp [hm]))
    rw [Lib.indexByte, hx, ih]
    rfl
theorem fcut_hit (l r : List UInt8) (c : UInt8) (h : c ∉ l) : Lib.cut (l ++ c :: r) [c] = (l, r, true) := by
  unfold Lib.cut
  rw [Lib.index_one, fidx_hit r c l h, if_pos (by omega)]
  simp
theorem fcut_miss (l : List UInt8) (c : UInt8) (h : c ∉ l) : Lib.cut l [c] = (l, [], false) := by
  unfold Lib.cut
  rw [Lib.index_one, fidx_miss c l h, if_neg (by omega)]

/-! ### What is read out of the words -/
def trimT (s : ByteArray) (c : UInt8) : ByteArray := ⟨(Lib.trimSuffix s.data.toList [c]).toArray⟩
def cutA (s : ByteArray) (c : UInt8) : ByteArray := ⟨(Lib.cut s.data.toList [c]).1.toArray⟩
def cutB (s : ByteArray) (c : UInt8) : ByteArray := ⟨(Lib.cut s.data.toList [c]).2.1.toArray⟩
def cutC (s : ByteArray) (c : UInt8) : Bool := (Lib.cut s.data.toList [c]).2.2
/-- The kind with a name. -/
def kindOf (s : ByteArray) : Int := if s = fogNm 1 then 1 else if s = fogNm 2 then 2 else if s = fogNm 3 then 3 else if s = fogNm 4 then 4 else 0
def candK (w : ByteArray) : Int := kindOf (cutA (trimT w 41) 40)
def candB (w : ByteArray) : Int := if cutC (trimT w 41) 40 then numR (cutB (trimT w 41) 40).data.toList else 1
/-- The text whose parts are the seconds and their tenths; the tenths of a second. -/
def rsN (s : ByteArray) : ByteArray := if decide (0 ≤ Lib.indexByte (trimT s 115).data.toList 46) then trimT s 115 else trimT s 115 ++ ⟨#[46, 48]⟩
def rsV (s : ByteArray) : Int := if (pcs 46 2 (rsN s)).length = 2 ∧ (pcs 46 2 (rsN s)).all pOk = true then ((pcs 46 2 (rsN s)).map pVal).getD 0 0 * 10 + ((pcs 46 2 (rsN s)).map pVal).getD 1 0 else 0

theorem bytes_is {b : ByteArray} {l : List UInt8} (h : b.data.toList = l) : b = ⟨l.toArray⟩ := WideShapes.bytes_inj (by rw [h])
def nmL (k : Int) : List UInt8 := (fogNm k).data.toList
theorem nm_no {k : Int} (h : inB 1 4 [k] = true) : (32 : UInt8) ∉ nmL k ∧ (40 : UInt8) ∉ nmL k ∧ (41 : UInt8) ∉ nmL k := by
  rcases kind_four h with rfl | rfl | rfl | rfl <;> decide
theorem kindOf_nm {k : Int} (h : inB 1 4 [k] = true) : kindOf (fogNm k) = k := by
  rcases kind_four h with rfl | rfl | rfl | rfl <;> decide
theorem head_list (k b : Int) : (fogHead k b).data.toList = if 1 < b then nmL k ++ 40 :: (Lib.itoa b ++ [41]) else nmL k := by
  unfold fogHead nmL
  split
  · simp only [ByteArray.data_append, Array.toList_append, decT]
    simp
  · rfl
theorem sec_list (p : Int) : (secT p).data.toList = if p % 10 = 0 then Lib.itoa (p / 10) ++ [115] else Lib.itoa (p / 10) ++ 46 :: (Lib.itoa (p % 10) ++ [115]) := by
  unfold secT
  split
  · simp only [ByteArray.data_append, Array.toList_append, decT]
  · simp only [ByteArray.data_append, Array.toList_append, decT]
    simp
theorem head_no {k b : Int} (h : inB 1 4 [k] = true) (b0 : 0 ≤ b) : (32 : UInt8) ∉ (fogHead k b).data.toList := by
  have h1 := (nm_no h).1
  have h2 := fno_digit (c := 32) (by decide) (fit_facts b0).1
  rw [head_list]
  split
  · simp [h1, h2]
  · exact h1
theorem sec_no {p : Int} (p0 : 0 ≤ p) : (32 : UInt8) ∉ (secT p).data.toList := by
  have h1 := fno_digit (c := 32) (by decide) (fit_facts (n := p / 10) (by omega)).1
  have h2 := fno_digit (c := 32) (by decide) (fit_facts (n := p % 10) (by omega)).1
  rw [sec_list]
  split <;> simp [h1, h2]
/-- The three words of a text. -/
theorem cut_text {k b p q : Int} (h : fogOk k b p q = true) : cutS 32 (fogT k b p q) = [fogHead k b, secT p, decT q] := by
  obtain ⟨h1, ⟨p0, p1⟩, q0, q1⟩ := ok_parts h
  obtain ⟨hk, b0, b1⟩ := shape_yes h1
  have lb := least_bd h1
  have e : (fogT k b p q).data.toList = (fogHead k b).data.toList ++ 32 :: ((secT p).data.toList ++ 32 :: (decT q).data.toList) := by
    unfold fogT
    simp only [ByteArray.data_append, Array.toList_append]
    simp
  have n3 : (32 : UInt8) ∉ (decT q).data.toList := by
    have := fno_digit (c := 32) (by decide) (fit_facts (n := q) (by omega)).1
    simpa [decT] using this
  unfold cutS
  rw [e, cutAt_hit 32 _ _ (head_no hk (by omega)), cutAt_hit 32 _ _ (sec_no (by omega)), cutAt_miss 32 _ n3]
  rfl
theorem cand_head {k b : Int} (h : fogShape k b = true) : candK (fogHead k b) = k ∧ candB (fogHead k b) = b := by
  obtain ⟨hk, b0, b1⟩ := shape_yes h
  obtain ⟨n1, n2, n3⟩ := nm_no hk
  have hl := head_list k b
  by_cases hb : 1 < b
  · rw [if_pos hb] at hl
    have ht : (trimT (fogHead k b) 41).data.toList = nmL k ++ 40 :: Lib.itoa b := by
      unfold trimT
      rw [hl, show nmL k ++ 40 :: (Lib.itoa b ++ [41]) = (nmL k ++ 40 :: Lib.itoa b) ++ [41] by simp, ftrim_hit]
    have hc := fcut_hit (nmL k) (Lib.itoa b) 40 n2
    obtain ⟨g1, g2⟩ := canB_itoa (n := b) (by omega) (by omega)
    constructor
    · unfold candK cutA
      rw [ht, hc]
      show kindOf ⟨(nmL k).toArray⟩ = k
      rw [show (⟨(nmL k).toArray⟩ : ByteArray) = fogNm k from rfl]
      exact kindOf_nm hk
    · unfold candB cutC cutB
      rw [ht, hc]
      show (if true = true then numR (Lib.itoa b) else 1) = b
      rw [if_pos rfl, numR_yes g1, g2]
  · rw [if_neg hb] at hl
    have ht : (trimT (fogHead k b) 41).data.toList = nmL k := by
      unfold trimT
      rw [hl, ftrim_miss _ _ n3]
    have hc := fcut_miss (nmL k) 40 n2
    constructor
    · unfold candK cutA
      rw [ht, hc]
      show kindOf ⟨(nmL k).toArray⟩ = k
      rw [show (⟨(nmL k).toArray⟩ : ByteArray) = fogNm k from rfl]
      exact kindOf_nm hk
    · unfold candB cutC
      rw [ht, hc]
      show (if false = true then _ else (1 : Int)) = b
      rw [if_neg (by decide)]
      omega
theorem num_dec {q : Int} (q0 : 0 ≤ q) (q1 : q ≤ 1000000) : canB (decT q).data.toList = true ∧ numR (decT q).data.toList = q := by
  obtain ⟨g1, g2⟩ := canB_itoa (n := q) (by omega) (by omega)
  have e : (decT q).data.toList = Lib.itoa q := by simp [decT]
  rw [e]
  exact ⟨g1, by rw [numR_yes g1, g2]⟩
theorem two_parts (x y : List UInt8) (hx : x.all isD = true) (hx0 : x ≠ []) (hy : y.all isD = true) (hy0 : y ≠ []) (s : ByteArray) (hs : s.data.toList = x ++ 46 :: y) : pcs 46 2 s = [⟨x.toArray⟩, ⟨y.toArray⟩] := by
  have n1 := fno_digit (c := 46) (by decide) hx
  have n2 := fno_digit (c := 46) (by decide) hy
  have hcut : cutAt 46 s.data.toList = [x, y] := by rw [hs, cutAt_hit 46 _ _ n1, cutAt_miss 46 _ n2]
  rw [pcs_cut 46 2 _ (by
    have := cutAt_len 46 s.data.toList
    rw [hcut] at this
    rw [Lib.count_one]
    simp only [List.length_cons, List.length_nil] at this
    omega) (by
    have : s.size = s.data.toList.length := rfl
    rw [this, hs]
    have := List.length_pos_iff.2 hx0
    have := List.length_pos_iff.2 hy0
    simp; omega)]
  unfold cutS
  rw [hcut]; rfl
theorem rs_sec {p : Int} (p0 : 0 ≤ p) (p1 : p ≤ 1200) : rsV (secT p) = p := by
  obtain ⟨f1, f2, f3⟩ := fit_facts (n := p / 10) (by omega)
  obtain ⟨g1, g2, g3⟩ := fit_facts (n := p % 10) (by omega)
  have n1 := fno_digit (c := 46) (by decide) f1
  have n2 := fno_digit (c := 115) (by decide) f1
  have n3 := fno_digit (c := 115) (by decide) g1
  have hl := sec_list p
  by_cases hz : p % 10 = 0
  · rw [if_pos hz] at hl
    have ht : (trimT (secT p) 115).data.toList = Lib.itoa (p / 10) := by unfold trimT; rw [hl, ftrim_hit]
    have hN : (rsN (secT p)).data.toList = Lib.itoa (p / 10) ++ 46 :: [48] := by
      unfold rsN
      rw [ht, fidx_miss 46 _ n1, if_neg (by decide)]
      simp only [ByteArray.data_append, Array.toList_append]
      rw [ht]
    obtain ⟨u1, u2⟩ := p_digits f1 f2 (by omega)
    have hP := two_parts _ [48] f1 f2 (by decide) (by simp) _ hN
    obtain ⟨v1, v2⟩ := p_digits (l := [48]) (by decide) (by simp) (by decide)
    unfold rsV
    rw [hP, if_pos (by simp [u1, v1])]
    simp only [List.map_cons, List.map_nil, List.getD_cons_zero, List.getD_cons_succ]
    rw [u2, v2, f3]
    have : (dv 0 [48] : Int) = 0 := by decide
    omega
  · rw [if_neg hz] at hl
    have ht : (trimT (secT p) 115).data.toList = Lib.itoa (p / 10) ++ 46 :: Lib.itoa (p % 10) := by
      unfold trimT
      rw [hl, show Lib.itoa (p / 10) ++ 46 :: (Lib.itoa (p % 10) ++ [115]) = (Lib.itoa (p / 10) ++ 46 :: Lib.itoa (p % 10)) ++ [115] by simp, ftrim_hit]
    have hN : (rsN (secT p)).data.toList = Lib.itoa (p / 10) ++ 46 :: Lib.itoa (p % 10) := by
      unfold rsN
      rw [ht, fidx_hit _ 46 _ n1, if_pos (by simp)]
      exact ht
    obtain ⟨u1, u2⟩ := p_digits f1 f2 (by omega)
    obtain ⟨v1, v2⟩ := p_digits g1 g2 (by omega)
    have hP := two_parts _ _ f1 f2 g1 g2 _ hN
    unfold rsV
    rw [hP, if_pos (by simp [u1, v1])]
    simp only [List.map_cons, List.map_nil, List.getD_cons_zero, List.getD_cons_succ]
    rw [u2, v2, f3, g3]
    omega
end Go.Proofs.YthheacebafleeacGreatDoor
namespace Go.Proofs.YthheacebafleeacGreatDoor
open Go.ChangeShapes Go.WideShapes Go.ChangeAt Go.RowKit Pm

abbrev F4 := Int × Int × Int × Int
def okF (f : F4) : Bool := fogOk f.1 f.2.1 f.2.2.1 f.2.2.2
def txF (f : F4) : ByteArray := fogT f.1 f.2.1 f.2.2.1 f.2.2.2
/-- The signal that three words are read as. -/
def cand3 (a b c : ByteArray) : F4 := (candK a, candB a, rsV b, numR c.data.toList)
def rd3 (s a b c : ByteArray) : F4 × Bool := if okF (cand3 a b c) = true ∧ txF (cand3 a b c) = s then (cand3 a b c, true) else ((0, 0, 0, 0), false)
def rdF (s : ByteArray) : F4 × Bool := match cutS 32 s with
  | [a, b, c] => rd3 s a b c
  | _ => ((0, 0, 0, 0), false)
theorem rdF_len {s : ByteArray} (h : (cutS 32 s).length ≠ 3) : rdF s = ((0, 0, 0, 0), false) := by
  unfold rdF
  match cutS 32 s, h with
  | [], _ => rfl
  | [_], _ => rfl
  | [_, _], _ => rfl
  | [_, _, _], h => exact absurd rfl h
  | _ :: _ :: _ :: _ :: _, _ => rfl
theorem rdF_three {s a b c : ByteArray} (h : cutS 32 s = [a, b, c]) : rdF s = rd3 s a b c := by unfold rdF; rw [h]
theorem cand_of {k b p q : Int} (h : fogOk k b p q = true) : cand3 (fogHead k b) (secT p) (decT q) = (k, b, p, q) := by
  obtain ⟨h1, ⟨p0, p1⟩, q0, q1⟩ := ok_parts h
  have lb := least_bd h1
  obtain ⟨e1, e2⟩ := cand_head h1
  obtain ⟨_, e4⟩ := num_dec (q := q) (by omega) (by omega)
  unfold cand3
  rw [e1, e2, rs_sec (by omega) p1, e4]
theorem rd_of {k b p q : Int} {s : ByteArray} (h : fogOk k b p q = true) (e : fogT k b p q = s) : rdF s = ((k, b, p, q), true) := by
  subst e
  rw [rdF_three (cut_text h)]
  unfold rd3
  rw [cand_of h, if_pos ⟨h, rfl⟩]
theorem rd3_no {s a b c : ByteArray} (h : (rd3 s a b c).2 = false) : rd3 s a b c = ((0, 0, 0, 0), false) := by
  unfold rd3 at *
  split
  · rename_i g; rw [if_pos g] at h; cases h
  · rfl
theorem rd3_yes {s a b c : ByteArray} (h : (rd3 s a b c).2 = true) : rd3 s a b c = (cand3 a b c, true) ∧ okF (cand3 a b c) = true ∧ txF (cand3 a b c) = s := by
  unfold rd3 at *
  split
  · rename_i g; exact ⟨rfl, g.1, g.2⟩
  · rename_i g; rw [if_neg g] at h; cases h
/-- Where a text is read, its words are the signal's. -/
theorem rd3_words {s a b c : ByteArray} (hw : cutS 32 s = [a, b, c]) {k l p q : Int} (h : rd3 s a b c = ((k, l, p, q), true)) : fogOk k l p q = true ∧ a = fogHead k l ∧ b = secT p ∧ c = decT q := by
  obtain ⟨e, ok, tx⟩ := rd3_yes (s := s) (a := a) (b := b) (c := c) (by rw [h])
  rw [h] at e
  have e2 : cand3 a b c = (k, l, p, q) := (Prod.mk.inj e).1.symm
  rw [e2] at ok tx
  have ct := cut_text (k := k) (b := l) (p := p) (q := q) ok
  rw [show fogT k l p q = s from tx, hw] at ct
  simp only [List.cons.injEq, and_true] at ct
  exact ⟨ok, ct.1, ct.2.1, ct.2.2⟩
theorem cut_one {c : UInt8} : ∀ {l a : List UInt8}, cutAt c l = [a] → l = a
  | [], a, h => by simp [cutAt] at h; exact h.symm
  | x :: r, a, h => by
    rw [cutAt] at h
    split at h
    · simp only [List.cons.injEq] at h; exact absurd h.2 (cutAt_ne c r)
    · cases h3 : cutAt c r with
      | nil => exact absurd h3 (cutAt_ne c r)
      | cons u v =>
        rw [h3] at h
        simp only [glue, List.cons.injEq] at h
        obtain ⟨h1, h2⟩ := h
        subst h2
        rw [← h1, cut_one h3]
theorem cut_more {c : UInt8} : ∀ {l a : List UInt8} {p : List UInt8} {ps : List (List UInt8)}, cutAt c l = a :: p :: ps → ∃ r, l = a ++ c :: r ∧ cutAt c r = p :: ps
  | [], a, p, ps, h => by simp [cutAt] at h
  | x :: r, a, p, ps, h => by
    rw [cutAt] at h
    split at h
    · rename_i hx
      simp only [List.cons.injEq] at h
      exact ⟨r, by rw [← h.1, hx]; rfl, h.2⟩
    · cases h3 : cutAt c r with
      | nil => exact absurd h3 (cutAt_ne c r)
      | cons u v =>
        rw [h3] at h
        simp only [glue, List.cons.injEq] at h
        obtain ⟨h1, h2⟩ := h
        subst h2
        obtain ⟨r', e, h4⟩ := cut_more h3
        exact ⟨r', by rw [← h1, e]; rfl, h4⟩
theorem cut_join {s a b c : ByteArray} (h : cutS 32 s = [a, b, c]) : s.data.toList = a.data.toList ++ 32 :: (b.data.toList ++ 32 :: c.data.toList) := by
  unfold cutS at h
  have e : ∀ l : List (List UInt8), (l.map (fun l => (⟨l.toArray⟩ : ByteArray))).map (fun b => b.data.toList) = l := by
    intro l
    rw [List.map_map]
    conv => rhs; rw [← List.map_id l]
    apply List.map_congr_left
    intro b _
    simp
  have h2 : cutAt 32 s.data.toList = [a.data.toList, b.data.toList, c.data.toList] := by
    have := congrArg (List.map fun b : ByteArray => b.data.toList) h
    rw [e] at this
    exact this
  obtain ⟨r, e1, h3⟩ := cut_more h2
  obtain ⟨r', e2, h4⟩ := cut_more h3
  rw [e1, e2, cut_one h4]
/-- Where a signal's words are a text's words, the text is read as that signal. -/
theorem rd3_found {s a b c : ByteArray} (hw : cutS 32 s = [a, b, c]) {k l p : Int} (hc : canB c.data.toList = true) (ok : fogOk k l p (numR c.data.toList) = true) (ha : a = fogHead k l) (hb : secT p = b) : rd3 s a b c = ((k, l, p, numR c.data.toList), true) := by
  rw [← rdF_three hw]
  refine rd_of ok (WideShapes.bytes_inj ?_)
  have hq : (decT (numR c.data.toList)).data.toList = c.data.toList := by
    rw [numR_yes hc]
    show (Lib.itoa (numV c.data.toList)).toArray.toList = _
    rw [itoa_numV hc]
  rw [cut_join hw, ha, ← hb, ← hq]
  unfold fogT
  simp only [ByteArray.data_append, Array.toList_append]
  simp [hq]
end Go.Proofs.YthheacebafleeacGreatDoor
