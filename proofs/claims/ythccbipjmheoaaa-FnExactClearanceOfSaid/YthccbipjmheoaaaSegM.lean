/- The segments of a line. -/
import Derived.Test.YthccbipjmheoaaaChnW
import Derived.Test.YthccbipjmheoaaaDist
import Derived.Test.YthccbipjmheoaaaDistS
import Derived.RangeFuncNested
import Derived.RangeFuncBound
import Derived.RangeFuncCalls
import Derived.RangeFuncLeaves
import Derived.RangeFuncBox
import Derived.Shelf.Abstract
import Derived.Shelf.RegionOpen
import Derived.WalkKit
import Derived.OwnWalkIn
import Derived.TacticsInMore
import Derived.LoopNIn
import Derived.LoopIn
namespace Go.Proofs.Ythccbipjmheoaaa
open Go.ChangeShapes Go.WideShapes Go.ChangeAt Go.RowKit Pm

theorem sqrt_exS (n : Nat) : ∃ r : Nat, r * r ≤ n ∧ n < (r + 1) * (r + 1) := by
  induction n with
  | zero => exact ⟨0, by omega, by omega⟩
  | succ n ih =>
    obtain ⟨r, h1, h2⟩ := ih
    by_cases h : n + 1 < (r + 1) * (r + 1)
    · exact ⟨r, by omega, h⟩
    · refine ⟨r + 1, by omega, ?_⟩
      have e : (r + 1 + 1) * (r + 1 + 1) = (r + 1) * (r + 1) + 2 * (r + 1) + 1 := by grind
      omega
theorem root_exS {n : Int} (h0 : 0 ≤ n) (h1 : n ≤ 9223372030926249000) : ∃ r, Root n r := by
  obtain ⟨N, rfl⟩ := Int.eq_ofNat_of_zero_le h0
  obtain ⟨r, h2, h3⟩ := sqrt_exS N
  have h4 : ((r * r : Nat) : Int) ≤ N := by omega
  have h5 : (N : Int) < (((r + 1) * (r + 1) : Nat) : Int) := by omega
  simp only [Int.natCast_mul, Int.natCast_add, Int.natCast_one] at h4 h5
  refine ⟨r, by omega, ?_, fun h => by omega, fun _ => ⟨h4, h5⟩⟩
  by_cases hr : (r : Int) ≤ 3037000499
  · exact hr
  · have : (3037000500 : Int) * 3037000500 ≤ r * r := Int.mul_le_mul (by omega) (by omega) (by omega) (by omega)
    omega
theorem dist_exS (ax ay bx cy : Int) : ∃ r, DistIs ax ay bx cy r := by
  by_cases hc : (okB (ax, ay) && okB (bx, cy)) = true
  · obtain ⟨ha, hb⟩ : okB (ax, ay) = true ∧ okB (bx, cy) = true := by simpa using hc
    obtain ⟨r, hr⟩ := root_exS (sqd_nn ax ay bx cy) (Int.le_trans (sqd_bd (vd_of ha) (vd_of hb)) (by decide))
    exact ⟨r, by unfold DistIs; rw [if_pos hc]; exact hr⟩
  · exact ⟨0, by unfold DistIs; rw [if_neg hc]⟩

/-- The distance of two points. -/
noncomputable def dstV (p q : Int × Int) : Int := Classical.choose (dist_exS p.1 p.2 q.1 q.2)
theorem dstV_is (p q : Int × Int) : DistIs p.1 p.2 q.1 q.2 (dstV p q) := Classical.choose_spec (dist_exS p.1 p.2 q.1 q.2)
theorem dstV_bd (p q : Int × Int) : 0 ≤ dstV p q ∧ dstV p q ≤ 3037000499 := by
  have h := dstV_is p q
  unfold DistIs at h
  split at h
  · exact ⟨h.1, h.2.1⟩
  · rw [h]; omega
theorem distance_v (p q : Int × Int) (w : World) :
    Calls Try.prog 113 #[.agg #[.int .i64 p.1, .int .i64 p.2], .agg #[.int .i64 q.1, .int .i64 q.2]] w fun e w' => e = .returned (.int .i64 (dstV p q)) ∧ Below w.heap.size w w' :=
  (distance_any p.1 p.2 q.1 q.2 w).mono fun _ _ ⟨r, hr, he, hb⟩ => ⟨by rw [he, hr.one (dstV_is p q)], hb⟩
/-- The length of a segment; where it begins. -/
noncomputable def dL (ps : Pts) (i : Nat) : Int := dstV (ps.getD i (0, 0)) (ps.getD (i + 1) (0, 0))
noncomputable def begV (ps : Pts) : Nat → Int
  | 0 => 0
  | i + 1 => begV ps i + dL ps i
theorem dL_bd (ps : Pts) (i : Nat) : 0 ≤ dL ps i ∧ dL ps i ≤ 3037000499 := dstV_bd _ _
theorem begV_bd (ps : Pts) : ∀ i, 0 ≤ begV ps i ∧ begV ps i ≤ 3037000499 * i
  | 0 => by simp [begV]
  | i + 1 => by
    have := begV_bd ps i
    have := dL_bd ps i
    simp only [begV, Int.natCast_add, Int.natCast_one]
    omega
/-- A segment as a value. -/
noncomputable def segV (ps : Pts) (i : Nat) : Value := .agg #[.int .i64 (ps.getD i (0, 0)).1, .int .i64 (ps.getD i (0, 0)).2, .int .i64 (ps.getD (i + 1) (0, 0)).1, .int .i64 (ps.getD (i + 1) (0, 0)).2, .int .i64 (begV ps i), .int .i64 (dL ps i)]
/-- What a round keeps: every row of cells but one. -/
def KeepC (A : Nat) (w w' : World) : Prop := w.heap.size ≤ w'.heap.size ∧ ∀ g, g ≠ A → (∃ cs T fr, w.heap[g]? = some (.cells cs T fr)) → w'.heap[g]? = w.heap[g]?
theorem KeepC.t {A : Nat} {a b c : World} (h : KeepC A a b) (k : KeepC A b c) : KeepC A a c :=
  ⟨Nat.le_trans h.1 k.1, fun g hg ⟨cs, T, fr, hc⟩ => by
    have h1 := h.2 g hg ⟨cs, T, fr, hc⟩
    rw [k.2 g hg ⟨cs, T, fr, h1.trans hc⟩, h1]⟩
theorem KeepC.b {A : Nat} (w : World) (l : Nat) (o o' : Obj) (h : w.heap[l]? = some o) (ho : o.isCells = false) : KeepC A w (w.putObj l o') := by
  have g := grownBy_putObj' w l o'
  refine ⟨g.size, fun k hk ⟨cs, T, fr, hc⟩ => ?_⟩
  have hne : k ≠ l := by
    rintro rfl
    rw [h] at hc
    cases hc
    simp [Obj.isCells] at ho
  exact World.putObj_heap_other (fun e => hne e)
theorem KeepC.below {A : Nat} {w w' : World} (h : Below w.heap.size w w') : KeepC A w w' :=
  ⟨h.size, fun g _ ⟨_, _, _, hc⟩ => h.block g (Array.getElem?_eq_some_iff.1 hc).1⟩
theorem KeepC.put {A : Nat} (w : World) (j : Nat) (v : Value) : KeepC A w (w.setCell ⟨A, j, none⟩ v) :=
  ⟨by simp [World.setCell], fun g hg _ => Below.heap_setCell _ _ _ _ (fun e => hg e)⟩
theorem KeepC.cell {A b j : Nat} {w w' : World} {v : Value} (h : KeepC A w w') (hb : b ≠ A) (hc : w.cell? ⟨b, j, none⟩ = some v) : w'.cell? ⟨b, j, none⟩ = some v := by
  have : ∃ cs T fr, w.heap[b]? = some (.cells cs T fr) := by
    unfold World.cell? at hc
    simp only at hc
    split at hc
    · rename_i cs T fr e; exact ⟨cs, T, fr, e⟩
    · cases hc
  have e := h.2 b hb this
  unfold World.cell? at hc ⊢
  simp only at hc ⊢
  rw [e]; exact hc
theorem below_grown {w w' : World} (h : Below w.heap.size w w') : w.grownBy w' none := ⟨h.os, h.tape, h.output, h.size, fun k hk _ => h.block k hk⟩
end Go.Proofs.Ythccbipjmheoaaa
