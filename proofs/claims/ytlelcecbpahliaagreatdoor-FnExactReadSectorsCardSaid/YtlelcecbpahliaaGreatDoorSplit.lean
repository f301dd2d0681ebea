/- Dividing a text at a byte: the model's function. -/
import Derived.Test.YtlelcecbpahliaaGreatDoorSplitM
import Derived.Test.YtlelcecbpahliaaGreatDoorListI
namespace Go.Proofs.YtlelcecbpahliaaGreatDoor
open Go.ChangeShapes Go.WideShapes Go.ChangeAt Go.RowKit Pm

theorem CutInv.bound {c : UInt8} {s : ByteArray} {done : List ByteArray} {fr i : Nat} (h : CutInv c s done fr i) : done.length ≤ s.size := by
  have h1 := cutS_le c s
  have h2 : (cutS c (s.extract fr s.size)).length ≠ 0 := by
    unfold cutS; rw [List.length_map]
    intro e
    exact cutAt_ne c _ (List.length_eq_zero_iff.1 e)
  rw [h.2.2.1, List.length_append] at h1
  omega

/-- The strings of a list, as values. -/
def strV (ps : List ByteArray) : List Value := ps.map Value.string
theorem strV_len (ps : List ByteArray) : (strV ps).length = ps.length := by simp [strV]
theorem strV_snoc (ps : List ByteArray) (p : ByteArray) : strV (ps ++ [p]) = strV ps ++ [.string p] := by simp [strV]
theorem strrow_snoc {w : World} {B : Nat} {E : TypeId} {v : Value} {ps : List ByteArray} {p : ByteArray} (h : w.ownsRow B E 1 v (ps.length + 1) (strV ps ++ [.string p])) :
    w.ownsRow B E 1 v (ps ++ [p]).length (strV (ps ++ [p])) := by
  rw [strV_snoc, List.length_append, List.length_singleton]; exact h
theorem own_len {w : World} {B : Nat} {E : TypeId} {v : Value} {n : Nat} {ps qs : List ByteArray} (h : w.ownsRow B E 1 v n (strV ps)) (e : qs = ps) : w.ownsRow B E 1 v (strV qs).length (strV qs) := by
  subst e
  have h1 : n = (strV qs).length := by have := h.1; simp at this; omega
  rw [← h1]; exact h

theorem byte_ne {b c : UInt8} (h : ((b.toNat : Int) == (c.toNat : Int)) = false) : b ≠ c := by
  intro e; subst e; simp at h
theorem byte_same {b c : UInt8} (h : ((b.toNat : Int) == (c.toNat : Int)) = true) : b = c := by
  rw [beq_iff_eq] at h
  exact UInt8.toNat_inj.1 (by omega)

set_option maxRecDepth 100000 in
set_option maxHeartbeats 800000 in
theorem ssplit_any (s : ByteArray) (c : UInt8) (w : World) (hs : s.size ≤ 1048576) :
    Calls Tryz.prog 57 #[.string s, .int .u8 (c.toNat : Int)] w (OwnRet 9 (strV (cutS c s)) w) := by
  obtain ⟨i0, hi, hz0, hz1, hz2⟩ := info_parts infoStr
  go_enter Tryz.func57, Tryz.ntmps57
  go_wp2_with (fail)
  go_loopw [5, 6, 7] (fun v f m wr => ∃ (done : List ByteArray) (fr k : Nat), f = .int .i64 fr ∧ m = .int .i64 k ∧ CutInv c s done fr k ∧ wr.ownsRow w.heap.size 9 1 v done.length (strV done) ∧ Below w.heap.size w wr) (fun _ _ m _ => s.size - (intOf m).toNat)
  case atStart => exact ⟨[], 0, 0, rfl, rfl, CutInv.start c s, World.ownsRow_lit w #[] 0 (Nat.le_refl _) (by unfold maxLen; omega) rfl, (Below.refl _ _).alloc (Nat.le_refl _) _⟩
  case round =>
    obtain ⟨done, fr, k, rfl, rfl, hinv, hown, hbel⟩ := hrel
    have hfk := hinv.1
    have hks := hinv.2.1
    have hbd := hinv.bound
    have HINV := Lib.hid hinv
    have HB := Lib.hid hbel
    clear hinv hbel
    by_cases hlt : k < s.size
    · cases hb : ((s[k].toNat : Int) == (c.toNat : Int))
      · have HI := Lib.hid (HINV.out.miss hlt (byte_ne hb))
        have HO := Lib.hid hown
        clear hown
        go_wp2
        go_roundw
        case rel => exact ⟨done, fr, k + 1, rfl, by go_num, HI.out, HO.out, HB.out⟩
        case measure => simp [intOf]; omega
      · have HI := Lib.hid (HINV.out.hit hlt (byte_same hb))
        go_wp2_with (at_builtin; refine wpList_append_own _ rfl _ _ 49 rfl w.heap.size 9 i0 (.string ⟨#[]⟩) 1 16 Tryz.underlying49 hi hz0 hz1 hz2 rfl (by decide) _ _ _ rfl (hown.alloc _) ⟨wr.heap.size, 0, none⟩ 1 1 [.string (s.extract fr k)] rfl rfl (app_cells _ _ _) (by intro u hu; simp at hu; subst hu; rfl) (by unfold maxLen; omega) (by omega) (by have := HB.out.size; simp; omega) ?_)
        intro v' w1 hown' hgrow _
        have hown2 := strrow_snoc hown'
        have hb2 := below_app HB.out (Nat.le_refl _) hown hgrow
        clear hown' hgrow hown
        have HO := Lib.hid hown2
        have HB2 := Lib.hid hb2
        clear hown2 hb2
        go_wp2
        go_roundw
        case rel => exact ⟨_, k + 1, k + 1, by go_num, by go_num, HI.out, HO.out, HB2.out⟩
        case measure => simp [intOf]; omega
    · obtain rfl : k = s.size := by omega
      have HF := Lib.hid HINV.out.done
      go_wp2_with (at_builtin; refine wpList_append_own _ rfl _ _ 49 rfl w.heap.size 9 i0 (.string ⟨#[]⟩) 1 16 Tryz.underlying49 hi hz0 hz1 hz2 rfl (by decide) _ _ _ rfl (hown.alloc _) ⟨wr.heap.size, 0, none⟩ 1 1 [.string (s.extract fr s.size)] rfl rfl (app_cells _ _ _) (by intro u hu; simp at hu; subst hu; rfl) (by unfold maxLen; omega) (by omega) (by have := HB.out.size; simp; omega) ?_)
      intro v' w1 hown' hgrow _
      have hown2 := strrow_snoc hown'
      have hb2 := below_app HB.out (Nat.le_refl _) hown hgrow
      clear hown' hgrow hown
      have HO := Lib.hid hown2
      have HB2 := Lib.hid hb2
      clear hown2 hb2
      go_wp2
      go_ret
      exact ⟨_, rfl, own_len HO.out HF.out, HB2.out⟩
end Go.Proofs.YtlelcecbpahliaaGreatDoor
