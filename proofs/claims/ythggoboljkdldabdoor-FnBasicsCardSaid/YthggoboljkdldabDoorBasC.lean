/- The law of the basics, for whatever came in. -/
import Derived.Test.YthggoboljkdldabDoorBasL
namespace Go.Proofs.YthggoboljkdldabDoor
open Go.ChangeShapes Go.WideShapes Go.ChangeAt Go.RowKit Pm

theorem arg_bytes {w : World} {a : Option Addr} {len cap : Nat} {zs : List Int}
    (h : (a = none ∧ len = 0 ∧ cap = 0 ∧ zs = []) ∨ ∃ x, a = some x ∧ len ≤ cap ∧ cap ≤ maxLen ∧ zs.length = cap ∧ (∀ i, i < zs.length → w.cell? (x.add i) = some (.int .u8 (zs.getD i 0))) ∧ ∀ n ∈ zs, (Lit.int .u8 n).wf = true) :
    BytesIn (zs.take len) := by
  intro i hi
  rw [List.length_take] at hi
  rcases h with ⟨rfl, rfl, rfl, rfl⟩ | ⟨x, rfl, hl, hm, hz, hc, hw⟩
  · simp at hi
  · have h1 := hw (zs.getD i 0) (by
      rw [List.getD_eq_getElem?_getD, List.getElem?_eq_getElem (by omega)]
      exact List.getElem_mem _)
    have h2 : (zs.take len).getD i 0 = zs.getD i 0 := by
      rw [List.getD_eq_getElem?_getD, List.getD_eq_getElem?_getD, List.getElem?_take, if_pos (by omega)]
    rw [h2]
    have hmin : IntKind.u8.min = 0 := by decide
    have hmax : IntKind.u8.max = 255 := by decide
    have h3 : (decide (IntKind.u8.min ≤ zs.getD i 0) && decide (zs.getD i 0 ≤ IntKind.u8.max)) = true := h1
    rw [hmin, hmax] at h3
    simpa using h3

theorem basics_law (a0 : Option Addr) (len0 cap0 : Nat) (a1 : Option Addr) (len1 cap1 : Nat) (z0 z1 : List Int) (w : World)
    (h0 : ArgInts .u8 w (.slice a0 len0 cap0) z0) (e0 : z0.length = len0) (b0 : BytesIn z0) (h1 : ArgInts .u8 w (.slice a1 len1 cap1) z1) (e1 : z1.length = len1) (b1 : BytesIn z1)
    (hL : laidMetH Tryd.prog Rows.fnBasicsRow.laid w) (hsh : w.ShapedOpen Tryd.prog) :
    Calls Tryd.prog 3 #[.slice a0 len0 cap0, .slice a1 len1 cap1] w fun e w' => e = .returned (.bool true) ∧ Below w.heap.size w w' := by
  rw [MakeChecks.laidMetH_plain _ _ _ (by kernel_rfl)] at hL
  have hp := pow_of hL
  have hE : ErrsAt w := ⟨range_of hL.tail.tail.tail.tail, syn_of hL.tail.tail.tail.tail.tail⟩
  have hN := len_of hsh
  clear hL hsh
  by_cases hl : len0 ≤ 1048576 ∧ len1 ≤ 1048576
  · exact basics_small _ _ z0 z1 w h0 h1 b0 b1 (by omega) (by omega) hN hp hE
  · have HLG := Lib.hid (long_yes a0 a1 len0 len1 cap0 cap1 w (by omega))
    clear hl hp hE hN h0 h1
    go_enter Tryd.func3, Tryd.ntmps3
    go_wp2_with (go_at_call 5; refine HLG.out.mono ?_; rintro e w' ⟨rfl, rfl⟩)
    go_ret
    exact ⟨rfl, Below.refl _ _⟩
end Go.Proofs.YthggoboljkdldabDoor
