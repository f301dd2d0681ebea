/- Appending a phase to a row of the call's own. -/
import Derived.Test.YtgnajfdcbpfdjaaDoorPhsL
import Derived.Laws.AppendOwn
namespace Go.Proofs.YtgnajfdcbpfdjaaDoor
open Go.ChangeShapes Go.WideShapes Go.ChangeAt Go.RowKit Pm

theorem ph_cells (wr : World) (p : Ph) (T : TypeId) : ∀ j u, [Value.string p.1, .int .i64 p.2][j]? = some u → (wr.alloc (.cells #[.string p.1, .int .i64 p.2] T)).cell? ((⟨wr.heap.size, 0, none⟩ : Addr).add j) = some u := by
  intro j u hj
  match j, hj with
  | 0, hj => simp at hj; subst hj; simp [Addr.add]
  | 1, hj => simp at hj; subst hj; simp [Addr.add]
theorem wpList_app_ph {ops : Array Oper} {rest : List Oper} {o : Oper} {a : Act} {Q : Exit → Act → World → Prop} (hgd : o.guard = none) (s x : Operand)
    (B : Nat) (v : Value) (ps : List Ph) (p : Ph) (w0 wr : World) (T : TypeId) (hown : OwnPh wr B v ps) (hb : Below B w0 wr) (hB : B ≤ w0.heap.size) (hl : ps.length ≤ 1048577)
    (ho : o.op = .call { callee := .builtin .append, args := #[s, x], argTypes := #[32, 32] })
    (hs : a.eval s = v) (hx : a.eval x = .slice (some ⟨wr.heap.size, 0, none⟩) 1 1)
    (h : ∀ v' w', OwnPh w' B v' (ps ++ [p]) → Below B w0 w' → wpList Tryd.prog ops Q rest (a.put o.dst v') w') :
    wpList Tryd.prog ops Q (o :: rest) a (wr.alloc (.cells #[.string p.1, .int .i64 p.2] T)) := by
  obtain ⟨i0, hi, hz0, hz1, hz2⟩ := phinfo_parts infoPh
  have hsz := hb.size
  have hrow : (wr.alloc (.cells #[.string p.1, .int .i64 p.2] T)).ownsRow B 45 2 v ps.length (phV ps) := hown.below ((Below.refl _ _).alloc (Nat.le_refl _) _)
  refine wpList_append_own _ hgd s x 32 ho B 45 i0 (.agg #[.string ⟨#[]⟩, .int .i64 0]) 2 24 Tryd.underlying32 hi hz0 hz1 hz2 rfl (by decide) v ps.length (phV ps) hs hrow ⟨wr.heap.size, 0, none⟩ 1 1 [.string p.1, .int .i64 p.2] hx rfl (ph_cells wr p T) (by intro u hu; simp at hu; rcases hu with rfl | rfl <;> rfl) (by unfold maxLen; omega) (by omega) (by simp; omega) ?_
  intro v' w' h2 h3 _
  refine h v' w' ?_ ?_
  · unfold OwnPh
    rw [phV_app, List.length_append, List.length_singleton]
    exact h2
  · exact (hb.alloc (Nat.le_trans hB hb.size) _).grown h3 (by simp; omega) (fun k hk => (hrow.lt k hk).1)
end Go.Proofs.YtgnajfdcbpfdjaaDoor
