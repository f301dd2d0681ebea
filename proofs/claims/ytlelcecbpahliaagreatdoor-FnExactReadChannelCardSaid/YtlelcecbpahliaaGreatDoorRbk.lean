/- A value that is read back from its text: the program's word, for channels. -/
import Derived.Test.YtlelcecbpahliaaGreatDoorCtxI
namespace Go.Proofs.YtlelcecbpahliaaGreatDoor
open Go.ChangeShapes Go.WideShapes Go.ChangeAt Go.RowKit Pm

theorem rb_yes {a b : ByteArray} (h : a = b) : (a.toList == b.toList) = true ∧ (a.toList != b.toList) = false := by subst h; simp
theorem rb_no {a b : ByteArray} (h : ¬ a = b) : (a.toList == b.toList) = false ∧ (a.toList != b.toList) = true := by
  have h2 : (a.toList == b.toList) = false := by
    rw [beq_eq_false_iff_ne]
    intro e
    rw [ByteArray.toList_eq, ByteArray.toList_eq] at e
    exact h (WideShapes.bytes_inj e)
  exact ⟨h2, by rw [bne, h2]; rfl⟩
theorem rb_full {s : ByteArray} (hs : 0 < s.size) : s.toList.isEmpty = false := by
  rw [List.isEmpty_eq_false_iff]
  intro e
  rw [ByteArray.toList_eq] at e
  have h : s.data.size = 0 := by rw [← Array.length_toList, e]; rfl
  have h2 : s.size = s.data.size := rfl
  omega
theorem rb_some {s : ByteArray} (h : 0 < s.size) : ¬ s = ⟨#[]⟩ := by intro e; subst e; cases h
set_option maxRecDepth 100000 in
set_option maxHeartbeats 1000000 in
theorem rbchn_any (a : ByteArray) (z : Int) (a' : Option Addr) (n' c' : Nat) (s T : ByteArray) (w : World) (hs : 0 < s.size)
    (HT : ∀ w', Below w.heap.size w w' → Calls Tryz.prog 22 #[.agg #[.string a, .slice a' n' c', .int .i64 z]] w' fun e w'' => e = .returned (.string T) ∧ Below w'.heap.size w' w'') :
    Calls Tryz.prog 36 #[.agg #[.string a, .slice a' n' c', .int .i64 z], .func (.func 22) #[] #[], .string s] w fun e w' => e = .returned (if T = s then .tuple #[.agg #[.string a, .slice a' n' c', .int .i64 z], .bool true] else .tuple #[.agg #[.string ⟨#[]⟩, .slice none 0 0, .int .i64 0], .bool false]) ∧ Below w.heap.size w w' := by
  have z1 := rb_full hs
  have HTT := Lib.hid HT
  clear HT hs
  by_cases h : T = s
  · rw [if_pos h]
    obtain ⟨e1, e2⟩ := rb_yes h
    clear h
    go_enter Tryz.func36, Tryz.ntmps36
    go_wp2_with (go_at_call 22; refine (HTT.out _ (by go_grown)).mono ?_; rintro e w2 ⟨rfl, hb⟩; refine Hid.out ?_)
    refine Lib.hid ?_
    have x0 := cell_below (a := ⟨w.heap.size, 0, none⟩) (v := .string a) (by go_cell) hb
    have x1 := cell_below (a := ⟨w.heap.size, 1, none⟩) (v := .slice a' n' c') (by go_cell) hb
    have x2 := cell_below (a := ⟨w.heap.size, 2, none⟩) (v := .int .i64 z) (by go_cell) hb
    have y0 := cell_below (a := ⟨w.heap.size + 1, 0, none⟩) (v := .string ⟨#[]⟩) (by go_cell) hb
    have y1 := cell_below (a := ⟨w.heap.size + 1, 1, none⟩) (v := .slice none 0 0) (by go_cell) hb
    have y2 := cell_below (a := ⟨w.heap.size + 1, 2, none⟩) (v := .int .i64 0) (by go_cell) hb
    have f0 : w2.frozen? ⟨w.heap.size + 1, 0, none⟩ = false := by rw [hb.frozen (by simp)]; go_simp
    have f1 : w2.frozen? ⟨w.heap.size + 1, 1, none⟩ = false := by rw [hb.frozen (by simp)]; go_simp
    have f2 : w2.frozen? ⟨w.heap.size + 1, 2, none⟩ = false := by rw [hb.frozen (by simp)]; go_simp
    have AC := Lib.hid (Below.next (a := w) (by go_grown) hb)
    clear hb
    go_wp2
    refine bodyPost_ret (v := .tuple #[.agg #[.string a, .slice a' n' c', .int .i64 z], .bool true]) (by simp [results, Tryz.results36, go_sem, *]) rfl ⟨rfl, ?_⟩
    iterate 3 (refine Below.setCell ?_ (by simp only; omega) _)
    exact AC.out
  · rw [if_neg h]
    obtain ⟨e1, e2⟩ := rb_no h
    clear h
    go_enter Tryz.func36, Tryz.ntmps36
    go_wp2_with (go_at_call 22; refine (HTT.out _ (by go_grown)).mono ?_; rintro e w2 ⟨rfl, hb⟩; refine Hid.out ?_)
    refine Lib.hid ?_
    have y0 := cell_below (a := ⟨w.heap.size + 1, 0, none⟩) (v := .string ⟨#[]⟩) (by go_cell) hb
    have y1 := cell_below (a := ⟨w.heap.size + 1, 1, none⟩) (v := .slice none 0 0) (by go_cell) hb
    have y2 := cell_below (a := ⟨w.heap.size + 1, 2, none⟩) (v := .int .i64 0) (by go_cell) hb
    have f0 : w2.frozen? ⟨w.heap.size + 1, 0, none⟩ = false := by rw [hb.frozen (by simp)]; go_simp
    have f1 : w2.frozen? ⟨w.heap.size + 1, 1, none⟩ = false := by rw [hb.frozen (by simp)]; go_simp
    have f2 : w2.frozen? ⟨w.heap.size + 1, 2, none⟩ = false := by rw [hb.frozen (by simp)]; go_simp
    have AC := Lib.hid (Below.next (a := w) (by go_grown) hb)
    have hsz : w.heap.size + 1 < w2.heap.size := World.block_lt_of_cell? _ _ y0
    clear hb
    go_wp2
    refine bodyPost_ret (v := .tuple #[.agg #[.string ⟨#[]⟩, .slice none 0 0, .int .i64 0], .bool false]) (by simp [results, Tryz.results36, go_sem, *]) rfl ⟨rfl, ?_⟩
    first
      | (iterate 3 (refine Below.setCell ?_ (by simp only; omega) _)
         exact AC.out.alloc AC.out.size _)
      | (refine Below.alloc ?_ (by simp; omega) _
         iterate 3 (refine Below.setCell ?_ (by simp only; omega) _)
         exact AC.out)
end Go.Proofs.YtlelcecbpahliaaGreatDoor
