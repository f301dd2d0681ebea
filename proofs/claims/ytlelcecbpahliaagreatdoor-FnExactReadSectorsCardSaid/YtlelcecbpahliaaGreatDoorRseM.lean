/- Reading sectors. No Go in sight. -/
import Derived.Test.YtlelcecbpahliaaGreatDoorSxtM
import Derived.Test.YtlelcecbpahliaaGreatDoorPrp
import Derived.Test.YtlelcecbpahliaaGreatDoorSplit
import Derived.Lib.SlTrimSet
namespace Go.Proofs.YtlelcecbpahliaaGreatDoor
open Go.ChangeShapes Go.WideShapes Go.ChangeAt Go.RowKit Pm

/-! Dividing and joining. -/
theorem join_glue (x : UInt8) (sep : List UInt8) : ∀ ps : List (List UInt8), ps ≠ [] → Lib.join (glue x ps) sep = x :: Lib.join ps sep
  | [], h => absurd rfl h
  | p :: ps, _ => by
    show Lib.join ((x :: p) :: ps) sep = _
    rw [Lib.join_cons, Lib.join_cons]; rfl
theorem join_nilc (sep : List UInt8) : ∀ ps : List (List UInt8), ps ≠ [] → Lib.join ([] :: ps) sep = sep ++ Lib.join ps sep
  | [], h => absurd rfl h
  | p :: ps, _ => by
    rw [Lib.join_cons, Lib.join_cons]
    simp [Lib.joinTail]
theorem cut_join (c : UInt8) : ∀ l : List UInt8, Lib.join (cutAt c l) [c] = l
  | [] => by simp [cutAt, Lib.join_one]
  | x :: r => by
    rw [cutAt]
    split
    · rename_i h
      rw [join_nilc _ _ (cutAt_ne c r), cut_join c r, h]; rfl
    · rw [join_glue _ _ _ (cutAt_ne c r), cut_join c r]
theorem join_cut (c : UInt8) : ∀ xs : List (List UInt8), xs ≠ [] → (∀ x ∈ xs, c ∉ x) → cutAt c (Lib.join xs [c]) = xs
  | [], h, _ => absurd rfl h
  | [x], _, h => by rw [Lib.join_one]; exact cutAt_miss c x (h x (by simp))
  | x :: y :: r, _, h => by
    have ih := join_cut c (y :: r) (by simp) (fun z hz => h z (by simp [hz]))
    have e : Lib.join (x :: y :: r) [c] = x ++ c :: Lib.join (y :: r) [c] := by
      rw [Lib.join_cons, Lib.join_cons]; simp [Lib.joinTail]
    rw [e, cutAt_hit c _ x (h x (by simp)), ih]
theorem cutS_map (c : UInt8) (s : ByteArray) : (cutS c s).map (·.data.toList) = cutAt c s.data.toList := by
  unfold cutS
  rw [List.map_map]
  conv => rhs; rw [← List.map_id (cutAt c s.data.toList)]
  apply List.map_congr_left
  intro b _
  rfl

/-! A part of the text, as the model reads it. -/
def pa (p : ByteArray) (i : Nat) : ByteArray := (cutS 45 p).getD i e0
def paN (p : ByteArray) : ByteArray := (pa p 1).extract 0 ((pa p 1).size - 1)
def paC (p : ByteArray) : ByteArray := (pa p 1).extract ((pa p 1).size - 1) (pa p 1).size
def okPartS (p : ByteArray) : Bool := decide ((cutS 45 p).length = 2) && decide (2 ≤ (pa p 1).size) && canB (pa p 0).data.toList && canB (paN p).data.toList
def partS (p : ByteArray) : Sec := (numR (pa p 0).data.toList, numR (paN p).data.toList, paC p)
/-! .. as the program reads it. -/
def cutset : List UInt8 := [87, 82, 71, 89]
def arcI (p : ByteArray) : ByteArray := ⟨(Lib.trimRightS p.data.toList cutset).toArray⟩
def okPartI (p : ByteArray) : Bool := decide ((pcs 45 2 (arcI p)).length = 2) && (pcs 45 2 (arcI p)).all pOk
def partI (p : ByteArray) : Sec := if okPartI p then (((pcs 45 2 (arcI p)).map pVal).getD 0 0, ((pcs 45 2 (arcI p)).map pVal).getD 1 0, p.extract (arcI p).size p.size) else (0, 0, ⟨#[]⟩)

theorem ext_split (b : ByteArray) (k : Nat) (h : k ≤ b.size) : (b.extract 0 k).data.toList ++ (b.extract k b.size).data.toList = b.data.toList := by
  have h1 := Lib.extract_toList b 0 k
  have h2 := Lib.extract_toList b k b.size
  rw [ByteArray.toList_eq] at h1 h2
  rw [h1, h2]
  have hl : b.data.toList.length = b.size := rfl
  rw [List.drop_zero, Nat.sub_zero, List.take_of_length_le (l := b.data.toList.drop k) (by rw [List.length_drop]; omega)]
  exact List.take_append_drop k _
/-- Its text is the part. -/
theorem sec_part {p : ByteArray} (h : okPartS p = true) : secS (partS p) = p := by
  simp only [okPartS, Bool.and_eq_true, decide_eq_true_eq] at h
  obtain ⟨⟨⟨h1, h2⟩, h3⟩, h4⟩ := h
  refine WideShapes.bytes_inj ?_
  unfold secS partS
  simp only [ByteArray.data_append, Array.toList_append]
  rw [numR_yes h3, numR_yes h4]
  have i1 : (itoaS (numV (pa p 0).data.toList)).data.toList = (pa p 0).data.toList := itoa_numV h3
  have i2 : (itoaS (numV (paN p).data.toList)).data.toList = (paN p).data.toList := itoa_numV h4
  rw [i1, i2]
  have hx := ext_split (pa p 1) ((pa p 1).size - 1) (by omega)
  have hm := cutS_map 45 p
  have hj := cut_join 45 p.data.toList
  rw [← hm] at hj
  have hc : cutS 45 p = [pa p 0, pa p 1] := by
    unfold pa
    match hq : cutS 45 p, h1 with
    | [a, b], _ => rfl
  rw [hc, List.map_cons, List.map_singleton, Lib.join_cons] at hj
  rw [← hj, List.append_assoc]
  show _ ++ [45] ++ ((paN p).data.toList ++ (paC p).data.toList) = _
  unfold paN paC
  rw [hx]
  simp [Lib.joinTail]

/-! The parts of a text that was written. -/
theorem itoa_dig {n : Int} (h0 : 0 ≤ n) : Lib.itoa n = Lib.decDigits n.toNat := by unfold Lib.itoa; rw [if_neg (by omega)]
theorem itoa_facts {n : Int} (h0 : 0 ≤ n) (h1 : n ≤ 359) : (Lib.itoa n).all isD = true ∧ Lib.itoa n ≠ [] ∧ (dv 0 (Lib.itoa n) : Int) = n := by
  rw [itoa_dig h0]
  obtain ⟨f1, f2, f3, _⟩ := dec_facts n.toNat n.toNat (Nat.le_refl _)
  exact ⟨f2, f3, by rw [f1]; omega⟩
theorem col_cases {c : ByteArray} (h : colB c = true) : ∃ x, c.data.toList = [x] ∧ x ∈ cutset := by
  rcases colB_cases h with h | h | h | h <;> rw [ByteArray.toList_eq] at h <;> exact ⟨_, h, by simp [cutset]⟩
theorem cutset_nd {x : UInt8} (h : x ∈ cutset) : isD x = false ∧ x ≠ 45 ∧ x ≠ 44 := by
  simp only [cutset, List.mem_cons, List.not_mem_nil, or_false] at h
  rcases h with rfl | rfl | rfl | rfl <;> decide
theorem dig_nc {x : UInt8} (h : isD x = true) : x ∉ cutset := fun hm => by
  have := (cutset_nd hm).1
  rw [h] at this; cases this
theorem dig_ne {x : UInt8} (h : isD x = true) : x ≠ 45 ∧ x ≠ 44 := by
  rw [isD_iff] at h
  constructor <;> intro e <;> subst e <;> simp at h
theorem secS_list {p : Sec} : (secS p).data.toList = Lib.itoa p.1 ++ 45 :: (Lib.itoa p.2.1 ++ p.2.2.data.toList) := by
  unfold secS
  simp only [ByteArray.data_append, Array.toList_append]
  simp [itoaS]
theorem all_nm {c : UInt8} {l : List UInt8} (hc : ∀ x, isD x = true → x ≠ c) (h : l.all isD = true) : c ∉ l := fun hm => hc c (List.all_eq_true.1 h c hm) rfl
theorem secS_nc {p : Sec} (h : okSec p = true) : 44 ∉ (secS p).data.toList := by
  obtain ⟨⟨a, b⟩, c, d⟩ := okSec_ends h
  obtain ⟨x, hx, hm⟩ := col_cases (okSec_col h)
  have h1 := all_nm (c := 44) (fun x h => (dig_ne h).2) (itoa_facts a b).1
  have h2 := all_nm (c := 44) (fun x h => (dig_ne h).2) (itoa_facts c d).1
  rw [secS_list, hx]
  simp only [List.mem_append, List.mem_cons, List.not_mem_nil, or_false, not_or]
  exact ⟨h1, by decide, h2, fun e => (cutset_nd hm).2.2 e.symm⟩
theorem secS_cut {p : Sec} (h : okSec p = true) : cutAt 45 (secS p).data.toList = [Lib.itoa p.1, Lib.itoa p.2.1 ++ p.2.2.data.toList] := by
  obtain ⟨⟨a, b⟩, c, d⟩ := okSec_ends h
  obtain ⟨x, hx, hm⟩ := col_cases (okSec_col h)
  have h1 := all_nm (c := 45) (fun x h => (dig_ne h).1) (itoa_facts a b).1
  have h2 := all_nm (c := 45) (fun x h => (dig_ne h).1) (itoa_facts c d).1
  rw [secS_list, cutAt_hit 45 _ _ h1, cutAt_miss]
  rw [hx]
  simp only [List.mem_append, List.mem_cons, List.not_mem_nil, or_false, not_or]
  exact ⟨h2, fun e => (cutset_nd hm).2.1 e.symm⟩
theorem bytes_of {l : List UInt8} {b : ByteArray} (h : b.data.toList = l) : b = ⟨l.toArray⟩ := WideShapes.bytes_inj (by rw [h])
/-- The model reads its own text. -/
theorem part_sec {p : Sec} (h : okSec p = true) : okPartS (secS p) = true ∧ partS (secS p) = p := by
  obtain ⟨⟨a, b⟩, c, d⟩ := okSec_ends h
  obtain ⟨x, hx, hm⟩ := col_cases (okSec_col h)
  have hcut : cutS 45 (secS p) = [⟨(Lib.itoa p.1).toArray⟩, ⟨(Lib.itoa p.2.1 ++ [x]).toArray⟩] := by
    unfold cutS
    rw [secS_cut h, hx]; rfl
  have hp0 : pa (secS p) 0 = ⟨(Lib.itoa p.1).toArray⟩ := by unfold pa; rw [hcut]; rfl
  have hp1 : pa (secS p) 1 = ⟨(Lib.itoa p.2.1 ++ [x]).toArray⟩ := by unfold pa; rw [hcut]; rfl
  have hsz : (pa (secS p) 1).size = (Lib.itoa p.2.1).length + 1 := by rw [hp1]; simp [ByteArray.size]
  have hN : (paN (secS p)).data.toList = Lib.itoa p.2.1 := by
    unfold paN
    have := Lib.extract_toList (pa (secS p) 1) 0 ((pa (secS p) 1).size - 1)
    rw [ByteArray.toList_eq] at this
    rw [this, hsz, hp1]
    simp
  have hC : (paC (secS p)).data.toList = [x] := by
    unfold paC
    have := Lib.extract_toList (pa (secS p) 1) ((pa (secS p) 1).size - 1) (pa (secS p) 1).size
    rw [ByteArray.toList_eq] at this
    rw [this, hsz, hp1]
    simp
  obtain ⟨f1, f2⟩ := canB_itoa (n := p.1) (by omega) (by omega)
  obtain ⟨g1, g2⟩ := canB_itoa (n := p.2.1) (by omega) (by omega)
  have hne := (itoa_facts c d).2.1
  have h0 : (pa (secS p) 0).data.toList = Lib.itoa p.1 := by rw [hp0]
  constructor
  · unfold okPartS
    rw [hN, h0, f1, g1, hsz, hcut]
    have : 2 ≤ (Lib.itoa p.2.1).length + 1 := by have := List.length_pos_iff.2 hne; omega
    simp [this]
  · unfold partS
    rw [hN, h0, numR_yes f1, numR_yes g1, f2, g2]
    have : paC (secS p) = p.2.2 := WideShapes.bytes_inj (by rw [hC, hx])
    rw [this]
theorem p_num {n : Int} (h0 : 0 ≤ n) (h1 : n ≤ 359) : pOk ⟨(Lib.itoa n).toArray⟩ = true ∧ pVal ⟨(Lib.itoa n).toArray⟩ = n := by
  obtain ⟨f1, f2, f3⟩ := itoa_facts h0 h1
  have := p_digits f1 f2 (by omega)
  rwa [f3] at this
/-- .. and the program reads it so. -/
theorem partI_sec {p : Sec} (h : okSec p = true) : partI (secS p) = p := by
  obtain ⟨⟨a, b⟩, c, d⟩ := okSec_ends h
  obtain ⟨x, hx, hm⟩ := col_cases (okSec_col h)
  obtain ⟨f1, f2, _⟩ := itoa_facts a b
  obtain ⟨g1, g2, _⟩ := itoa_facts c d
  have harc : Lib.trimRightS (secS p).data.toList cutset = Lib.itoa p.1 ++ 45 :: Lib.itoa p.2.1 := by
    rw [secS_list, hx]
    unfold Lib.trimRightS
    have hrev : (Lib.itoa p.1 ++ 45 :: (Lib.itoa p.2.1 ++ [x])).reverse = x :: ((Lib.itoa p.2.1).reverse ++ 45 :: (Lib.itoa p.1).reverse) := by simp
    rw [hrev, List.dropWhile_cons, if_pos (by simpa using hm)]
    obtain ⟨y, r, hyr⟩ : ∃ y r, (Lib.itoa p.2.1).reverse = y :: r := by
      cases hr : (Lib.itoa p.2.1).reverse with
      | nil => exact absurd (List.reverse_eq_nil_iff.1 hr) g2
      | cons y r => exact ⟨y, r, rfl⟩
    have hy : isD y = true := by
      have : y ∈ (Lib.itoa p.2.1).reverse := by rw [hyr]; simp
      exact List.all_eq_true.1 g1 y (List.mem_reverse.1 this)
    rw [hyr, List.cons_append, List.dropWhile_cons, if_neg (by simpa using dig_nc hy), ← List.cons_append, ← hyr]
    simp
  have hal : (arcI (secS p)).data.toList = Lib.itoa p.1 ++ 45 :: Lib.itoa p.2.1 := harc
  have n1 := all_nm (c := 45) (fun x h => (dig_ne h).1) f1
  have n2 := all_nm (c := 45) (fun x h => (dig_ne h).1) g1
  have hcut : cutAt 45 (arcI (secS p)).data.toList = [Lib.itoa p.1, Lib.itoa p.2.1] := by
    rw [hal, cutAt_hit 45 _ _ n1, cutAt_miss 45 _ n2]
  have hpc : pcs 45 2 (arcI (secS p)) = [⟨(Lib.itoa p.1).toArray⟩, ⟨(Lib.itoa p.2.1).toArray⟩] := by
    rw [pcs_cut 45 2 _ (by
      have := cutAt_len 45 (arcI (secS p)).data.toList
      rw [hcut] at this
      rw [Lib.count_one]
      simp only [List.length_cons, List.length_nil] at this
      omega) (by
      have : (arcI (secS p)).size = (arcI (secS p)).data.toList.length := rfl
      rw [this, hal]
      have := List.length_pos_iff.2 f2
      have := List.length_pos_iff.2 g2
      simp; omega)]
    unfold cutS
    rw [hcut]; rfl
  obtain ⟨u1, u2⟩ := p_num a b
  obtain ⟨v1, v2⟩ := p_num c d
  have hok : okPartI (secS p) = true := by unfold okPartI; rw [hpc]; simp [u1, v1]
  unfold partI
  rw [if_pos hok, hpc]
  simp only [List.map_cons, List.map_nil, List.getD_cons_zero, List.getD_cons_succ]
  rw [u2, v2]
  have hcol : (secS p).extract (arcI (secS p)).size (secS p).size = p.2.2 := by
    refine WideShapes.bytes_inj ?_
    have := Lib.extract_toList (secS p) (arcI (secS p)).size (secS p).size
    rw [ByteArray.toList_eq] at this
    rw [this]
    have e1 : (arcI (secS p)).size = (Lib.itoa p.1 ++ 45 :: Lib.itoa p.2.1).length := by rw [← hal]; rfl
    have e2 : (secS p).data.toList = (Lib.itoa p.1 ++ 45 :: Lib.itoa p.2.1) ++ [x] := by rw [secS_list, hx]; simp
    have e3 : (secS p).size = (secS p).data.toList.length := rfl
    rw [e3, e1, e2, List.drop_left, hx]
    exact List.take_of_length_le (by simp; omega)
  rw [hcol]

/-! The whole text. -/
noncomputable def rdsS (s : ByteArray) : Option (List Sec) :=
  if s.toList = [45] then some [] else if (cutS 44 s).length ≤ 12 ∧ (cutS 44 s).all okPartS = true ∧ validS ((cutS 44 s).map partS) = true then some ((cutS 44 s).map partS) else none
noncomputable def rdsI (s : ByteArray) : Option (List Sec) :=
  if s.toList = [45] then some [] else if validS ((cutS 44 s).map partI) = true ∧ secText ((cutS 44 s).map partI) = s then some ((cutS 44 s).map partI) else none
theorem valid_ok {ps : List Sec} (h : validS ps = true) : ∀ p ∈ ps, okSec p = true := fun p hp => by
  obtain ⟨i, hi, rfl⟩ := List.getElem_of_mem hp
  have := ((validS_iff.1 h).2.1 i hi).1
  rwa [sec_getD ps i hi] at this
theorem cut_pos (c : UInt8) (s : ByteArray) : (cutS c s) ≠ [] := by
  unfold cutS
  intro e
  exact cutAt_ne c _ (List.map_eq_nil_iff.1 e)
theorem text_parts {s : ByteArray} {ps : List Sec} (hm : ps.map secS = cutS 44 s) : (⟨(sxtJ ps).toArray⟩ : ByteArray) = s := by
  refine WideShapes.bytes_inj ?_
  have hj := cut_join 44 s.data.toList
  rw [← cutS_map, ← hm, List.map_map] at hj
  exact hj
theorem rds_eq (s : ByteArray) : rdsI s = rdsS s := by
  unfold rdsI rdsS
  by_cases h0 : s.toList = [45]
  · rw [if_pos h0, if_pos h0]
  rw [if_neg h0, if_neg h0]
  have hpos := cut_pos 44 s
  by_cases hS : (cutS 44 s).length ≤ 12 ∧ (cutS 44 s).all okPartS = true ∧ validS ((cutS 44 s).map partS) = true
  · obtain ⟨h1, h2, h3⟩ := hS
    have hsec : ∀ p ∈ cutS 44 s, secS (partS p) = p := fun p hp => sec_part (List.all_eq_true.1 h2 p hp)
    have hok : ∀ p ∈ cutS 44 s, okSec (partS p) = true := fun p hp => valid_ok h3 _ (List.mem_map.2 ⟨p, hp, rfl⟩)
    have hIS : (cutS 44 s).map partI = (cutS 44 s).map partS := by
      apply List.map_congr_left
      intro p hp
      have := partI_sec (hok p hp)
      rwa [hsec p hp] at this
    have hT : secText ((cutS 44 s).map partS) = s := by
      unfold secText sxtA
      rw [h3, if_pos rfl, if_neg (by rw [List.length_map]; exact fun e => hpos (List.length_eq_zero_iff.1 e))]
      refine text_parts ?_
      rw [List.map_map]
      conv => rhs; rw [← List.map_id (cutS 44 s)]
      apply List.map_congr_left
      intro p hp
      exact hsec p hp
    rw [hIS, if_pos ⟨h3, hT⟩, if_pos ⟨h1, h2, h3⟩]
  · rw [if_neg hS]
    rw [if_neg]
    rintro ⟨h1, h2⟩
    apply hS
    have hok := valid_ok h1
    generalize hL : (cutS 44 s).map partI = L at h1 h2 hok
    have hLne : L ≠ [] := by rw [← hL]; simpa using hpos
    have hT : (⟨(sxtJ L).toArray⟩ : ByteArray) = s := by
      unfold secText sxtA at h2
      rw [h1, if_pos rfl, if_neg (fun e => hLne (List.length_eq_zero_iff.1 e))] at h2
      exact h2
    have hcut : cutS 44 s = L.map secS := by
      have e : s.data.toList = sxtJ L := by rw [← hT]
      unfold cutS
      rw [e]
      unfold sxtJ
      rw [join_cut 44 _ (by simpa using hLne) (fun x hx => by
        obtain ⟨p, hp, rfl⟩ := List.mem_map.1 hx
        exact secS_nc (hok p hp)), List.map_map]
      apply List.map_congr_left
      intro p _
      rfl
    have hmap : (cutS 44 s).map partS = L := by
      rw [hcut, List.map_map]
      conv => rhs; rw [← List.map_id L]
      apply List.map_congr_left
      intro p hp
      exact (part_sec (hok p hp)).2
    refine ⟨by rw [hcut, List.length_map]; exact (validS_iff.1 h1).1, ?_, by rw [hmap]; exact h1⟩
    rw [List.all_eq_true]
    intro p hp
    rw [hcut] at hp
    obtain ⟨q, hq, rfl⟩ := List.mem_map.1 hp
    exact (part_sec (hok q hq)).1
end Go.Proofs.YtlelcecbpahliaaGreatDoor
