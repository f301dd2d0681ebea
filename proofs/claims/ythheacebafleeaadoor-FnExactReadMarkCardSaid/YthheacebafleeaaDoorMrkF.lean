/- The shapes of a kind of marks, parts of a look: the program's. -/
import Derived.Test.YthheacebafleeaaDoorMrkR
import Derived.Test.YthheacebafleeaaDoorLays
import Derived.Lib.LaidTab
import Derived.Lib.SlicesS
import Derived.Lib.AppendIntMem
namespace Go.Proofs.YthheacebafleeaaDoor
open Go.ChangeShapes Go.WideShapes Go.ChangeAt Go.RowKit Pm

/-- The library's table of blanks reads so. -/
def SpaceAt (w : World) : Prop := Lib.TabIs Tryd.prog w "strings.asciiSpace" .u8 Lib.asciiSpaceTab
theorem SpaceAt.below {w w' : World} (h : SpaceAt w) (hb : Below w.heap.size w w') : SpaceAt w' := Lib.tabBelow_of_tabIs h w' hb
set_option maxRecDepth 100000 in
theorem space_of {W : World} {r : List (String × DataW Unit)} (h : laidMet Tryd.prog (("strings.asciiSpace", Rows.laid_strings_asciiSpace) :: r) W) : SpaceAt W :=
  Lib.tabIs_of_head (g := 1) (t := 80) (e := 5) (n := 256) (by kernel_rfl) (by kernel_rfl) Tryd.underlying80 Tryd.underlying5 (by kernel_rfl) (by kernel_rfl) h
set_option maxRecDepth 100000 in
theorem space_in {W : World} {l : List (String × DataW Unit)} (h : laidMet Tryd.prog l W) (e : (l.filter fun x => x.1 == "strings.asciiSpace") = [("strings.asciiSpace", Rows.laid_strings_asciiSpace)]) : SpaceAt W :=
  space_of (r := []) (by have := h.filter (fun x => x.1 == "strings.asciiSpace"); rwa [e] at this)

theorem shapes_fields (k : Int) : (Lib.fields (mkF k 2).data.toList).map (fun l => (⟨l.toArray⟩ : ByteArray)) = mkShapes k := by
  cases h : inB 0 9 [k]
  · rw [mkF_out h, mkShapes_out h]; rfl
  · rcases kind_ten h with rfl | rfl | rfl | rfl | rfl | rfl | rfl | rfl | rfl | rfl <;> decide +kernel
theorem shapes_ascii (k : Int) : ∀ (j : Nat) (b : UInt8), (mkF k 2).data.toList[j]? = some b → b.toNat < 128 := by
  have hall : (mkF k 2).data.toList.all (fun b => decide (b.toNat < 128)) = true := by
    cases h : inB 0 9 [k]
    · rw [mkF_out h]; rfl
    · rcases kind_ten h with rfl | rfl | rfl | rfl | rfl | rfl | rfl | rfl | rfl | rfl <;> decide +kernel
  intro j b hb
  exact of_decide_eq_true (List.all_eq_true.1 hall b (List.mem_of_getElem? hb))
theorem shapes_size (k : Int) : (mkF k 2).size < 4294967281 := by
  cases h : inB 0 9 [k]
  · rw [mkF_out h]; decide
  · rcases kind_ten h with rfl | rfl | rfl | rfl | rfl | rfl | rfl | rfl | rfl | rfl <;> decide +kernel
theorem shapes_len (k : Int) : (mkShapes k).length ≤ 5 := by
  cases h : inB 0 9 [k]
  · rw [mkShapes_out h]; decide
  · rcases kind_ten h with rfl | rfl | rfl | rfl | rfl | rfl | rfl | rfl | rfl | rfl <;> decide +kernel
theorem shapes_pos {k : Int} (h : inB 1 9 [k] = true) : 0 < (mkShapes k).length := by
  rcases kind_nine h with rfl | rfl | rfl | rfl | rfl | rfl | rfl | rfl | rfl <;> decide +kernel
theorem looks_in {k : Int} (h : inB 1 9 [k] = true) : inB 0 9 [k] = true := inb_in (by have := inb_yes h; omega)
/-- A row of strings lies there. -/
def StrsAt (w : World) (n : Nat) (zs : List ByteArray) : Prop := ∀ j, j < zs.length → w.cell? ⟨n, 0 + j, none⟩ = some (.string (zs.getD j ByteArray.empty))
theorem StrsAt.below {w w' : World} {n : Nat} {zs : List ByteArray} (h : StrsAt w n zs) (hb : Below w.heap.size w w') : StrsAt w' n zs := fun j hj => cell_below (h j hj) hb
theorem fields_any (k : Int) (w : World) (hS : SpaceAt w) :
    Calls Tryd.prog 55 #[.string (mkF k 2)] w fun e w' => e = .returned (.slice (some ⟨w.heap.size, 0, none⟩) (mkShapes k).length (mkShapes k).length) ∧ StrsAt w' w.heap.size (mkShapes k) ∧ Below w.heap.size w w' := by
  refine (Any.strings_Fields_laid Tryd.laysM157 (mkF k 2) w (shapes_size k) (shapes_ascii k) hS).mono ?_
  rintro e w' ⟨rfl, rfl⟩
  have hf := shapes_fields k
  refine ⟨by rw [← hf, List.length_map], ?_, (Below.refl _ _).alloc (Nat.le_refl _) _⟩
  intro j hj
  have hjl : j < (Lib.fields (mkF k 2).data.toList).length := by rw [← hf, List.length_map] at hj; exact hj
  rw [← hf, List.getD, List.getElem?_map, List.getElem?_eq_getElem hjl, Nat.zero_add]
  simp [hjl]
set_option maxRecDepth 100000 in
theorem shapenames_any (k : Int) (w : World) (hS : SpaceAt w) :
    Calls Tryd.prog 42 #[rowV k] w fun e w' => ∃ n, e = .returned (.slice (some ⟨n, 0, none⟩) (mkShapes k).length (mkShapes k).length) ∧ StrsAt w' n (mkShapes k) ∧ w.heap.size ≤ n ∧ Below w.heap.size w w' := by
  have HF := Lib.hid (fun w' (hb : Below w.heap.size w w') => fields_any k w' (hS.below hb))
  unfold rowV
  generalize mkShapes k = zs at *
  generalize mkF k 0 = s0 at *
  generalize mkF k 1 = s1 at *
  generalize mkF k 2 = s2 at *
  generalize mkF k 3 = s3 at *
  generalize mkF k 4 = s4 at *
  generalize mkF k 5 = s5 at *
  generalize mkF k 6 = s6 at *
  clear hS
  go_enter Tryd.func42, Tryd.ntmps42
  go_wp2_with (go_at_call 55; refine (HF.out _ (by go_grown)).mono ?_; rintro e w1 ⟨rfl, hst, hb⟩; refine Hid.out ?_)
  refine Lib.hid ?_
  have AC := Lib.hid (Below.next (a := w) (by go_grown) hb)
  have HT := Lib.hid hst
  clear hst hb
  go_wp2
  go_ret
  exact ⟨_, rfl, by have h := HT.out; simpa using h, by omega, AC.out⟩
theorem has_contains (zs : List ByteArray) (p : ByteArray) : Lib.containsS zs p = hasB zs p := by
  rw [Bool.eq_iff_iff, Lib.containsS_iff]
  unfold hasB
  rw [List.any_eq_true]
  constructor
  · intro h; exact ⟨p, h, by simp⟩
  · rintro ⟨x, hx, he⟩; rw [of_decide_eq_true he] at hx; exact hx
theorem contains_any (p : ByteArray) (b c : Nat) (zs : List ByteArray) (n : Nat) (w : World) (hn : n = zs.length) (hl : zs.length ≤ 5) (hc : StrsAt w b zs) :
    Calls Tryd.prog 44 #[.slice (some ⟨b, 0, none⟩) n c, .string p] w fun e w' => e = .returned (.bool (hasB zs p)) ∧ w = w' := by
  refine (Any.slices_Contains_string Tryd.lays110 b 0 n c zs p w (by omega) (by omega) hc).mono ?_
  rintro e w' ⟨rfl, rfl⟩
  rw [hn, List.take_length, has_contains]
  exact ⟨rfl, rfl⟩
set_option maxRecDepth 100000 in
theorem fits_any (p : ByteArray) (b c : Nat) (zs : List ByteArray) (n : Nat) (w : World) (hn : n = zs.length) (hl : zs.length ≤ 5) (hc : StrsAt w b zs) :
    Calls Tryd.prog 45 #[.string p, .slice (some ⟨b, 0, none⟩) n c] w fun e w' => e = .returned (.bool (fitB p zs)) ∧ w = w' := by
  have HC := Lib.hid (contains_any p b c zs n w hn hl hc)
  unfold fitB
  generalize hasB zs p = r at *
  clear hn hl hc
  cases h : (p.toList == ([] : List UInt8))
  all_goals
    go_enter Tryd.func45, Tryd.ntmps45
    go_wp2_with (go_at_call 44; refine HC.out.mono ?_; rintro e w1 ⟨rfl, rfl⟩)
    go_ret
    exact ⟨rfl, rfl⟩
set_option maxRecDepth 100000 in
theorem haslook_any (k : Int) (w : World) :
    Calls Tryd.prog 41 #[.int .i64 k] w fun e w' => e = .returned (.bool (inB 1 9 [k])) ∧ Below w.heap.size w w' := by
  have HW := Lib.hid (mwithin k 1 9 _ rfl)
  generalize inB 1 9 [k] = r at *
  go_enter Tryd.func41, Tryd.ntmps41
  go_wp2_with (go_at_call 54; (refine (HW.out _ _ ?_).mono ?_); (· simp); rintro e w1 ⟨rfl, rfl⟩)
  go_ret
  exact ⟨rfl, by go_grown⟩
end Go.Proofs.YthheacebafleeaaDoor
