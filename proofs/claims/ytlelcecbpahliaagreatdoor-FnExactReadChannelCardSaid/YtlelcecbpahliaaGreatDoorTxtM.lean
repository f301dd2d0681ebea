/- Texts of lists, read back: plain facts. -/
import Derived.Test.YtlelcecbpahliaaGreatDoorRdPt
import Derived.Test.YtlelcecbpahliaaGreatDoorPtText
namespace Go.Proofs.YtlelcecbpahliaaGreatDoor
open Go.ChangeShapes Go.WideShapes Go.ChangeAt Go.RowKit Pm

theorem comma_not {l : List UInt8} (h : canB l = true) : (44 : UInt8) ∉ l := by
  obtain ⟨_, _, _, hd⟩ := canB_out h
  have hb : (44 : UInt8) ∉ body l := by
    intro hm
    have := List.all_eq_true.1 hd _ hm
    revert this; decide
  unfold body at hb
  split at hb
  · rename_i hh
    cases l with
    | nil => simp at hh
    | cons c r =>
      simp at hh
      subst hh
      rw [List.mem_cons, not_or]
      exact ⟨by decide, by simpa using hb⟩
  · exact hb
theorem jn_two (a b : Int) (r : List Int) : jn (a :: b :: r) = Lib.itoa a ++ 44 :: jn (b :: r) := by
  simp [jn, Lib.join_cons, Lib.joinTail]
theorem cut_jn : ∀ (zs : List Int), zs ≠ [] → (∀ z ∈ zs, canB (Lib.itoa z) = true) → cutAt 44 (jn zs) = zs.map Lib.itoa
  | [], h, _ => absurd rfl h
  | [a], _, h => by rw [jn_one, cutAt_miss _ _ (comma_not (h a (by simp)))]; rfl
  | a :: b :: r, _, h => by
    rw [jn_two, cutAt_hit _ _ _ (comma_not (h a (by simp))), cut_jn (b :: r) (by simp) (fun z hz => h z (by simp at hz ⊢; exact .inr hz))]
    rfl
theorem can_in {z : Int} (h0 : -1000000000000 ≤ z) (h1 : z ≤ 1000000000000) : canB (Lib.itoa z) = true ∧ numR (Lib.itoa z) = z := by
  obtain ⟨h2, h3⟩ := canB_itoa (n := z) (by omega) (by omega)
  exact ⟨h2, (numR_yes h2).trans h3⟩
theorem read_back (zs : List Int) (h2 : 2 ≤ zs.length) (h64 : zs.length ≤ 64) (hin : inB (-1000000000000) 1000000000000 zs = true) :
    rlB ⟨(jn zs).toArray⟩ = true ∧ rlZ ⟨(jn zs).toArray⟩ = zs := by
  have hall : ∀ z ∈ zs, -1000000000000 ≤ z ∧ z ≤ 1000000000000 := by
    intro z hz
    unfold inB at hin
    have := List.all_eq_true.1 hin z hz
    simpa using this
  have hne : zs ≠ [] := by intro e; subst e; simp at h2
  have hc := cut_jn zs hne (fun z hz => (can_in (hall z hz).1 (hall z hz).2).1)
  have hcS : cutS 44 ⟨(jn zs).toArray⟩ = zs.map fun z => ⟨(Lib.itoa z).toArray⟩ := by
    unfold cutS
    rw [show (⟨(jn zs).toArray⟩ : ByteArray).data.toList = jn zs from rfl, hc, List.map_map]
    rfl
  have hd : (⟨(jn zs).toArray⟩ : ByteArray).data.toList ≠ [45] := by
    intro e
    rw [show (⟨(jn zs).toArray⟩ : ByteArray).data.toList = jn zs from rfl] at e
    rw [e] at hc
    have := congrArg List.length hc
    rw [cutAt_miss _ _ (by decide)] at this
    simp at this
    omega
  have hok : (cutS 44 ⟨(jn zs).toArray⟩).all numOk = true := by
    rw [hcS, List.all_map, List.all_eq_true]
    intro z hz
    obtain ⟨q0, q1⟩ := hall z hz
    obtain ⟨q2, q3⟩ := can_in q0 q1
    show (canB (Lib.itoa z) && inB (-1000000000000) 1000000000000 [numR (Lib.itoa z)]) = true
    rw [q2, q3]
    simp [inB]; omega
  obtain ⟨r1, r2⟩ := rl_yes hd (by rw [hcS, List.length_map]; exact h64) hok
  refine ⟨r1, ?_⟩
  rw [r2, hcS, List.map_map]
  conv => rhs; rw [← List.map_id zs]
  apply List.map_congr_left
  intro z hz
  exact (can_in (hall z hz).1 (hall z hz).2).2

/-! ### Roots -/
theorem ptText_yes {x y : Int} (h : inB 0 200000 [x, y] = true) : ptText x y = ⟨(jn [x, y]).toArray⟩ := by unfold ptText; rw [if_pos h]
/-- The text of a valid point is read as that point. -/
theorem readpt_is (x y : Int) (w : World) (h : inB 0 200000 [x, y] = true) (hL : LenAt w) (hP : PowAt w) (hE : ErrsAt w) :
    Calls Tryz.prog 35 #[.string (ptText x y)] w fun e w' => e = .returned (.tuple #[.agg #[.int .i64 x, .int .i64 y], .bool true]) ∧ Below w.heap.size w w' := by
  have hxy : (0 ≤ x ∧ x ≤ 200000) ∧ 0 ≤ y ∧ y ≤ 200000 := by simpa [inB] using h
  have hin : inB (-1000000000000) 1000000000000 [x, y] = true := by simp [inB]; omega
  obtain ⟨e1, e2⟩ := read_back [x, y] (by simp) (by simp) hin
  have hb : Below w.heap.size w (w.alloc (.cells #[.int .i64 0, .int .i64 0] 44)) := by go_grown
  have hsz : (jn [x, y]).length ≤ 22 * 2 := jn_len 2 _ rfl (fun z hz => by simp at hz; omega)
  have hI := readlist_any (ptText x y) (w.alloc (.cells #[.int .i64 0, .int .i64 0] 44)) (by rw [ptText_yes h]; show (jn [x, y]).toArray.size ≤ _; simpa using (by omega : (jn [x, y]).length ≤ 1048576)) (hL.below hb) (hP.below hb) (hE.below hb)
  have hI2 : Calls Tryz.prog 69 #[.string (ptText x y)] (w.alloc (.cells #[.int .i64 0, .int .i64 0] 44)) (RL [x, y] true (w.alloc (.cells #[.int .i64 0, .int .i64 0] 44))) := by
    unfold RLRet at hI
    rw [ptText_yes h] at hI ⊢
    rw [e1, e2] at hI
    exact hI
  have := readpoint_two1 (ptText x y) x y w h hI2
  rw [show rzV true [x, y] = ((x, y), true) by simp [rzV, h]] at this
  exact this
end Go.Proofs.YtlelcecbpahliaaGreatDoor
