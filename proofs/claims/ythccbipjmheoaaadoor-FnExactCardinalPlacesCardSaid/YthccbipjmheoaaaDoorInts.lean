/- Slices of numbers in new blocks; the program's DivRound. -/
import Derived.Test.YthccbipjmheoaaaDoorWithin
namespace Go.Proofs.YthccbipjmheoaaaDoor
open Go.ChangeShapes Go.WideShapes Go.ChangeAt Go.RowKit Pm

def divR (a b : Int) : Int := if b = 0 ∨ inB (-1000000000000) 1000000000000 [a, b] = false then 0 else dvr a b

theorem ints_new (w : World) (k : IntKind) (zs : List Int) (T : TypeId) (cap : Nat) (hm : zs.length ≤ 9223372036854775807) :
    IntsAre k (w.alloc (.cells (zs.map (Value.int k)).toArray T)) (.slice (some ⟨w.heap.size, 0, none⟩) zs.length cap) zs := by
  refine .inr ⟨_, _, _, rfl, hm, fun i hi => ?_⟩
  have h := (MapKept.heap_alloc w (.cells (zs.map (Value.int k)).toArray T)).1
  simp only [World.cell?, h]
  simp [hi]

theorem ints_two (w : World) (a b : Int) : IntsAre .i64 (w.alloc (.cells #[Value.int .i64 a, Value.int .i64 b] 2)) (.slice (some ⟨w.heap.size, 0, none⟩) 2 2) [a, b] :=
  ints_new w .i64 [a, b] 2 2 (by simp)
theorem ints_four (w : World) (a b c d : Int) : IntsAre .i64 (w.alloc (.cells #[Value.int .i64 a, Value.int .i64 b, Value.int .i64 c, Value.int .i64 d] 2)) (.slice (some ⟨w.heap.size, 0, none⟩) 4 4) [a, b, c, d] :=
  ints_new w .i64 [a, b, c, d] 2 4 (by simp)
theorem ints_one (w : World) (k : IntKind) (a : Int) (T : TypeId) : IntsAre k (w.alloc (.cells #[Value.int k a] T)) (.slice (some ⟨w.heap.size, 0, none⟩) 1 1) [a] :=
  ints_new w k [a] T 1 (by simp)

theorem inB_two (lo hi a b : Int) : inB lo hi [a, b] = (inB lo hi [a] && inB lo hi [b]) := by simp [inB]

theorem divround_any (a b : Int) (w : World) :
    Calls Tryd.prog 44 #[.int .i64 a, .int .i64 b] w fun e w' => e = .returned (.int .i64 (divR a b)) ∧ Below w.heap.size w w' := by
  by_cases h0 : b = 0
  · have hv := Lib.hid (show divR a b = 0 by simp [divR, h0])
    have b0 : (b == 0) = true := by simp [h0]
    clear h0
    go_enter Tryd.func44, Tryd.ntmps44
    go_wp2
    go_ret
    exact ⟨ret_i hv.out.symm, Below.refl _ _⟩
  · have b0 : (b == 0) = false := by simp [h0]
    by_cases h1 : inB (-1000000000000) 1000000000000 [a, b] = true
    · have hv := Lib.hid (show divR a b = dvr a b by simp [divR, h0, h1])
      have hbd : (-1000000000000 ≤ a ∧ a ≤ 1000000000000) ∧ (-1000000000000 ≤ b ∧ b ≤ 1000000000000) := by simpa [inB] using h1
      have H0 := Lib.hid h0; clear h0
      have H2 := ints_two w a b
      go_enter Tryd.func44, Tryd.ntmps44
      go_wp2_with (first | (go_at_call 38; refine (within_any _ _ _ _ _ H2).mono ?_; rintro e w' ⟨rfl, rfl⟩) | (go_at_call 67; refine (nq_any _ _ _ (by omega) (by omega) (by omega) (by omega) H0.out).mono ?_; rintro e w' ⟨rfl, rfl⟩))
      go_ret
      exact ⟨ret_i hv.out.symm, (Below.refl _ _).alloc (Nat.le_refl _) _⟩
    · have h1 : inB (-1000000000000) 1000000000000 [a, b] = false := by simpa using h1
      have hv := Lib.hid (show divR a b = 0 by simp [divR, h1])
      clear h0
      have H2 := ints_two w a b
      go_enter Tryd.func44, Tryd.ntmps44
      go_wp2_with (first | (go_at_call 38; refine (within_any _ _ _ _ _ H2).mono ?_; rintro e w' ⟨rfl, rfl⟩))
      go_ret
      exact ⟨ret_i hv.out.symm, (Below.refl _ _).alloc (Nat.le_refl _) _⟩

/-- A cell that is there reads the same behind a call that only makes blocks of its own. -/
theorem cell_below {w w' : World} {a : Addr} {v : Value} (h : w.cell? a = some v) (hb : Below w.heap.size w w') : w'.cell? a = some v := by
  have hlt : a.block < w.heap.size := by
    rcases Nat.lt_or_ge a.block w.heap.size with h' | h'
    · exact h'
    · simp [World.cell?, Array.getElem?_eq_none h'] at h
  rw [hb.cell hlt]; exact h

theorem IntsAre.below {k : IntKind} {w w' : World} {sv : Value} {zs : List Int} (h : IntsAre k w sv zs) (hb : Below w.heap.size w w') : IntsAre k w' sv zs := by
  rcases h with h | ⟨b, off, cap, h1, h2, h3⟩
  · exact .inl h
  · exact .inr ⟨b, off, cap, h1, h2, fun i hi => cell_below (h3 i hi) hb⟩
end Go.Proofs.YthccbipjmheoaaaDoor
