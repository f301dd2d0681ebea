/- The names of error codes: the model's and the program's. -/
import Derived.Test.YtppfgcjeeokomaaDoorInts
import Derived.Test.YtppfgcjeeokomaaDoorRows
import Derived.LaidMore
import Derived.Outline
namespace Go.Proofs.YtppfgcjeeokomaaDoor
open Go.ChangeShapes Go.WideShapes Go.ChangeAt Go.RowKit Pm

/-- The names of the codes 0 to 11, in bytes. -/
def codeNm : List (List UInt8) := [[111, 107], [105, 110, 118, 97, 108, 105, 100], [114, 97, 110, 103, 101], [110, 111, 116, 45, 102, 111, 117, 110, 100], [101, 120, 105, 115, 116, 115], [102, 117, 108, 108], [115, 116, 97, 116, 101], [111, 114, 100, 101, 114], [115, 121, 110, 116, 97, 120], [102, 111, 114, 109, 97, 116], [99, 104, 101, 99, 107, 115, 117, 109], [116, 114, 117, 110, 99, 97, 116, 101, 100]]
def codeName (n : Nat) : ByteArray := ⟨(codeNm.getD n []).toArray⟩

theorem names_cell {W : World} (h : laidMetH Tryd.prog Rows.fnExactCodeNameRow.laid W) (r : Nat) (hr : r < 12) : W.cell? ⟨0, r, none⟩ = some (.string (codeName r)) := by
  rw [MakeChecks.laidMetH_plain _ _ _ (by kernel_rfl)] at h
  obtain ⟨ps, ⟨g, t, cs, fuel, p, q, hg, ht, hv, hd, _, _⟩, _, _⟩ := h
  obtain rfl := Option.some.inj ((show Tryd.prog.globalNamed _ = some 0 by kernel_rfl).symm.trans hg)
  obtain rfl := Option.some.inj ((show (Tryd.prog.globals[0]?).map (·.type) = some 61 by kernel_rfl).symm.trans ht)
  obtain ⟨xs, m, _, ex, _, hl, hel⟩ := DataW.trod_array Tryd.underlying61 hd
  have c9 : Tryd.prog.cellsOf 9 = 1 := by kernel_rfl
  have hE := hel r hr
  rw [c9, Nat.mul_one, List.getElem?_eq_getElem (by omega)] at hE
  obtain ⟨s, e1, e2, _⟩ := DataW.trod_string Tryd.underlying9 hE
  have e3 : (xs.map (·.1)) = codeNm.map fun b => .lit (.string b) := (DataW.agg.inj (Prod.mk.inj ex).1).symm
  have hlen : codeNm.length = 12 := rfl
  have e4 : (xs.map (·.1))[r]? = (codeNm.map fun b => (DataW.lit (.string b) : DataW Unit))[r]? := by rw [e3]
  rw [List.getElem?_map, List.getElem?_map, List.getElem?_eq_getElem (by omega : r < xs.length), List.getElem?_eq_getElem (by omega : r < codeNm.length), e2] at e4
  have hz : s = codeName r := by
    simp only [Option.map_some, Option.some.injEq, DataW.lit.injEq, Lit.string.injEq] at e4
    refine WideShapes.bytes_inj ?_
    rw [e4, codeName, List.getD, List.getElem?_eq_getElem (by omega : r < codeNm.length)]
    rfl
  rw [World.var?_cell hg hv r, ← hz]
  have : cs.toList[r]? = some (.string s) := by
    have h0 : ((cs.toList.drop r).take 1)[0]? = some (.string s) := by rw [e1]; rfl
    simpa using h0
  simpa using this

/-- The name of a number; nothing where it is no code. -/
def nameOf (n : Int) : ByteArray := if inB 0 11 [n] = true then codeName n.toNat else ⟨#[]⟩

theorem ret_s {s u : ByteArray} (h : s = u) : Ending.returned (.string s) = .returned (.string u) := by rw [h]

theorem names_new (w : World) (T : TypeId) (r : Nat) (hr : r < 12) :
    (w.alloc (Obj.cells (codeNm.map fun b => Value.string ⟨b.toArray⟩).toArray T)).cell? ⟨w.heap.size, r, none⟩ = some (.string (codeName r)) := by
  have h := (MapKept.heap_alloc w (.cells (codeNm.map fun b => Value.string ⟨b.toArray⟩).toArray T)).1
  simp only [World.cell?, h]
  have hl : codeNm.length = 12 := rfl
  simp [codeName, hl, hr]

theorem scode_any (n : Int) (w : World) :
    Calls Tryd.prog 22 #[.int .i64 n] w fun e w' => e = .returned (.string (nameOf n)) ∧ Below w.heap.size w w' := by
  cases h : inB 0 11 [n]
  · have hv := Lib.hid (show nameOf n = ⟨#[]⟩ by unfold nameOf; rw [if_neg (by simp [h])])
    go_enter Tryd.func22, Tryd.ntmps22
    go_wp2_with (go_at_call 49; refine (in_any _ _ _ _).mono ?_; rintro e w' ⟨rfl, rfl⟩)
    go_ret
    exact ⟨ret_s hv.out.symm, (Below.refl _ _).alloc (Nat.le_refl _) _⟩
  · have hb : 0 ≤ n ∧ n ≤ 11 := by simpa [inB] using h
    obtain ⟨r, rfl⟩ : ∃ r : Nat, n = r := ⟨n.toNat, by omega⟩
    have hr : r < 12 := by omega
    have hv := Lib.hid (show nameOf r = codeName r by unfold nameOf; rw [if_pos h]; rfl)
    have HC := Lib.hid (names_new w 9 r hr)
    go_enter Tryd.func22, Tryd.ntmps22
    go_wp2_with (fail)
    refine (in_any _ _ _ _).mono ?_
    rintro e w1 ⟨rfl, hw1⟩
    have hc : w1.cell? ⟨w.heap.size, r, none⟩ = some (.string (codeName r)) := by rw [← hw1]; exact HC.out
    have hbel : Below w.heap.size w w1 := by rw [← hw1]; exact (Below.refl _ _).alloc (Nat.le_refl _) _
    have HB := Lib.hid hbel
    clear hw1 hbel HC hb
    go_wp2
    go_ret
    exact ⟨ret_s hv.out.symm, HB.out⟩

/-- The program's table of names holds them. -/
def NamesAt (w : World) : Prop := ∀ r, r < 12 → w.cell? ⟨0, r, none⟩ = some (.string (codeName r))
theorem NamesAt.below {w w' : World} (h : NamesAt w) (hb : Below w.heap.size w w') : NamesAt w' := fun r hr => cell_below (h r hr) hb

theorem code_any (n : Int) (w : World) (hN : NamesAt w) :
    Calls Tryd.prog 23 #[.int .i64 n] w fun e w' => e = .returned (.string (nameOf n)) ∧ Below w.heap.size w w' := by
  have H1 := ints_one w .i64 n 2
  cases h : inB 0 11 [n]
  · have hv := Lib.hid (show nameOf n = ⟨#[]⟩ by unfold nameOf; rw [if_neg (by simp [h])])
    clear hN
    go_enter Tryd.func23, Tryd.ntmps23
    go_wp2_with (go_at_call 40; refine (within_any _ _ _ _ _ H1).mono ?_; rintro e w' ⟨rfl, rfl⟩)
    go_ret
    exact ⟨ret_s hv.out.symm, (Below.refl _ _).alloc (Nat.le_refl _) _⟩
  · have hb : 0 ≤ n ∧ n ≤ 11 := by simpa [inB] using h
    obtain ⟨r, rfl⟩ : ∃ r : Nat, n = r := ⟨n.toNat, by omega⟩
    have hr : r < 12 := by omega
    have hv := Lib.hid (show nameOf r = codeName r by unfold nameOf; rw [if_pos h]; rfl)
    have HC := Lib.hid (cell_below (hN r hr) ((Below.refl _ _).alloc (Nat.le_refl _) (.cells #[Value.int .i64 (r : Int)] 2)))
    clear hN
    go_enter Tryd.func23, Tryd.ntmps23
    go_wp2_with (fail)
    refine (within_any _ _ _ _ _ H1).mono ?_
    rintro e w1 ⟨rfl, hw1⟩
    have hc : w1.cell? ⟨0, r, none⟩ = some (.string (codeName r)) := by rw [← hw1]; exact HC.out
    have hbel : Below w.heap.size w w1 := by rw [← hw1]; exact (Below.refl _ _).alloc (Nat.le_refl _) _
    have HB := Lib.hid hbel
    clear hw1 hbel HC hb H1
    go_wp2
    go_ret
    exact ⟨ret_s hv.out.symm, HB.out⟩

theorem codename_law (n : Int) (w : World) (hL : laidMetH Tryd.prog Rows.fnExactCodeNameRow.laid w) :
    Calls Tryd.prog 4 #[.int .i64 n] w fun e w' => e = .returned (.bool true) ∧ Below w.heap.size w w' := by
  have HN := Lib.hid (fun r hr => names_cell hL r hr : NamesAt w)
  clear hL
  go_enter Tryd.func4, Tryd.ntmps4
  go_wp2_with (first | (go_at_call 22; refine (scode_any _ _).mono ?_; rintro e w1 ⟨rfl, hb1⟩) | (go_at_call 23; refine (code_any _ _ (NamesAt.below HN.out hb1)).mono ?_; rintro e w2 ⟨rfl, hb2⟩))
  go_ret
  exact ⟨rfl, hb1.trans (hb2.mono hb1.size)⟩
end Go.Proofs.YtppfgcjeeokomaaDoor
