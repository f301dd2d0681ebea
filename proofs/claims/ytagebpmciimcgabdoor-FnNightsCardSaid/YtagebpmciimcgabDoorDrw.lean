/- The source's choices: a number below n, once in n, one of some. -/
import Derived.Test.YtagebpmciimcgabDoorDrwM
import Derived.Deep.RegionHeld3
namespace Go.Proofs.YtagebpmciimcgabDoor
open Go.ChangeShapes Go.WideShapes Go.ChangeAt Go.RowKit Pm

/-- A new source. -/
theorem from_new (w : World) (sv : Value) (zs : List Int) (h : ArgIn .u8 w sv zs) (hz : BytesAre zs) (hl : zs.length ≤ 1048576) :
    Calls Tryd.prog 46 #[sv] w fun e w' => e = .returned (.pointer (some ⟨w.heap.size, 0, none⟩)) ∧ Src w w.heap.size sv zs 0 w' ∧ Below w.heap.size w w' := by
  have hA := Lib.hid h
  obtain ⟨a, c, rfl⟩ := h.len
  clear h
  go_enter Tryd.func46, Tryd.ntmps46
  go_wp2
  go_ret
  refine ⟨rfl, ⟨hA.out, hz, hl, Nat.le_refl _, (Below.refl _ _).alloc (Nat.le_refl _) _, 0, 0, Nat.le_refl _, ?_, ?_, ?_, ?_, ?_⟩, (Below.refl _ _).alloc (Nat.le_refl _) _⟩ <;> (first | (simp; done) | (go_simp; done) | go_cell)

def PickP (n : Int) (v : Value) : Prop := ∃ x : Int, 0 ≤ x ∧ x < n ∧ v = .int .i64 x

theorem pick_draw (w0 w : World) (bs : Nat) (sv : Value) (zs : List Int) (k : Nat) (n : Int) (hk : k ≤ 900000) (n0 : 1 ≤ n) (n1 : n ≤ 1000000000) (h : Src w0 bs sv zs k w) :
    Calls Tryd.prog 47 #[.pointer (some ⟨bs, 0, none⟩), .int .i64 n] w (Drawn (PickP n) w0 bs sv zs (k + 2) w) := by
  by_cases hn : n ≤ 1
  · obtain rfl : n = 1 := by omega
    have H := Lib.hid (h.more (show k ≤ k + 2 by omega))
    clear h
    go_enter Tryd.func47, Tryd.ntmps47
    go_wp2
    go_ret
    exact ⟨_, ⟨0, by omega, by omega, rfl⟩, rfl, H.out, Only.refl _ _⟩
  · have H1 := Lib.hid (next_draw w0 w bs sv zs k (by omega) h)
    clear h
    by_cases h2 : 200 < n
    · go_enter Tryd.func47, Tryd.ntmps47
      go_wp2_with (go_at_call 80; refine H1.out.mono ?_; rintro e w2 ⟨_, ⟨x, x0, x1, rfl⟩, rfl, hS2, ho2⟩; refine Hid.out ?_)
      refine Lib.hid ?_
      have H2 := Lib.hid (next_draw w0 w2 bs sv zs (k + 1) (by omega) hS2)
      have HO2 := Lib.hid ho2
      clear hS2 ho2
      go_wp2_with (go_at_call 80; refine H2.out.mono ?_; rintro e w3 ⟨_, ⟨y, y0, y1, rfl⟩, rfl, hS3, ho3⟩; refine Hid.out ?_)
      refine Lib.hid ?_
      have HS3 := Lib.hid hS3
      have HO3 := Lib.hid (HO2.out.trans ho3)
      clear hS3 ho3
      go_wp2_with (fail)
      go_ret
      exact ⟨_, ⟨(x * 256 + y) % n, Int.emod_nonneg _ (by omega), Int.emod_lt_of_pos _ (by omega), rfl⟩, rfl, HS3.out, HO3.out⟩
    · go_enter Tryd.func47, Tryd.ntmps47
      go_wp2_with (go_at_call 80; refine H1.out.mono ?_; rintro e w2 ⟨_, ⟨x, x0, x1, rfl⟩, rfl, hS2, ho2⟩; refine Hid.out ?_)
      refine Lib.hid ?_
      have HS2 := Lib.hid (hS2.more (show k + 1 ≤ k + 2 by omega))
      have HO2 := Lib.hid ho2
      clear hS2 ho2
      go_wp2_with (fail)
      go_ret
      exact ⟨_, ⟨x % n, Int.emod_nonneg _ (by omega), Int.emod_lt_of_pos _ (by omega), rfl⟩, rfl, HS2.out, HO2.out⟩

theorem one_draw (w0 w : World) (bs : Nat) (sv : Value) (zs : List Int) (k : Nat) (n : Int) (hk : k ≤ 900000) (n0 : 1 ≤ n) (n1 : n ≤ 1000000000) (h : Src w0 bs sv zs k w) :
    Calls Tryd.prog 48 #[.pointer (some ⟨bs, 0, none⟩), .int .i64 n] w (Drawn (fun v => ∃ b : Bool, v = .bool b) w0 bs sv zs (k + 2) w) := by
  have H1 := Lib.hid (pick_draw w0 w bs sv zs k n hk n0 n1 h)
  clear h
  go_enter Tryd.func48, Tryd.ntmps48
  go_wp2_with (go_at_call 47; refine H1.out.mono ?_; rintro e w2 ⟨_, ⟨x, x0, x1, rfl⟩, rfl, hS2, ho2⟩; refine Hid.out ?_)
  refine Lib.hid ?_
  have HS2 := Lib.hid hS2
  have HO2 := Lib.hid ho2
  clear hS2 ho2
  go_wp2_with (fail)
  go_ret
  exact ⟨_, ⟨_, rfl⟩, rfl, HS2.out, HO2.out⟩

theorem among_draw (w0 w : World) (bs : Nat) (sv : Value) (zs : List Int) (k : Nat) (b : Nat) (cap : Nat) (xs : List Int) (hk : k ≤ 900000) (x0 : 1 ≤ xs.length) (x1 : xs.length ≤ 1000000) (hb : b ≠ bs)
    (hc : ∀ i, i < xs.length → w.cell? ⟨b, i, none⟩ = some (.int .i64 (xs.getD i 0))) (h : Src w0 bs sv zs k w) :
    Calls Tryd.prog 84 #[.pointer (some ⟨bs, 0, none⟩), .slice (some ⟨b, 0, none⟩) xs.length cap] w (Drawn (fun v => ∃ m, m ∈ xs ∧ v = .int .i64 m) w0 bs sv zs (k + 2) w) := by
  have H1 := Lib.hid (pick_draw w0 w bs sv zs k xs.length hk (by omega) (by omega) h)
  have HC := Lib.hid hc
  clear h hc
  go_enter Tryd.func84, Tryd.ntmps84
  go_wp2_with (go_at_call 47; refine H1.out.mono ?_; rintro e w2 ⟨_, ⟨x, x0, x1, rfl⟩, rfl, hS2, ho2⟩; refine Hid.out ?_)
  refine Lib.hid ?_
  obtain ⟨i, rfl⟩ := Int.eq_ofNat_of_zero_le x0
  have hi : i < xs.length := by omega
  have hcell := cell_only (HC.out i hi) hb ho2
  have HV := Lib.hid (show ∃ m, m ∈ xs ∧ Value.int .i64 (xs.getD i 0) = .int .i64 m from ⟨_, by rw [List.getD_eq_getElem?_getD, List.getElem?_eq_getElem hi]; exact List.getElem_mem _, rfl⟩)
  have HS2 := Lib.hid hS2
  have HO2 := Lib.hid ho2
  clear hS2 ho2
  generalize xs.getD i 0 = y at hcell HV
  go_wp2_with (fail)
  go_ret
  exact ⟨_, HV.out, rfl, HS2.out, HO2.out⟩
end Go.Proofs.YtagebpmciimcgabDoor
