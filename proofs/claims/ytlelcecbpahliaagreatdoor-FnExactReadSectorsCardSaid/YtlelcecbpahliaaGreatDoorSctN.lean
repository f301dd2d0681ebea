/- Appending a sector to a row of the call's own. -/
import Derived.Test.YtlelcecbpahliaaGreatDoorSctL
import Derived.Laws.AppendOwn
namespace Go.Proofs.YtlelcecbpahliaaGreatDoor
open Go.ChangeShapes Go.WideShapes Go.ChangeAt Go.RowKit Pm

theorem sec_cells (wr : World) (p : Sec) (T : TypeId) : ∀ j u, [Value.int .i64 p.1, .int .i64 p.2.1, .string p.2.2][j]? = some u → (wr.alloc (.cells #[.int .i64 p.1, .int .i64 p.2.1, .string p.2.2] T)).cell? ((⟨wr.heap.size, 0, none⟩ : Addr).add j) = some u := by
  intro j u hj
  match j, hj with
  | 0, hj => simp at hj; subst hj; simp [Addr.add]
  | 1, hj => simp at hj; subst hj; simp [Addr.add]
  | 2, hj => simp at hj; subst hj; simp [Addr.add]
theorem wpList_app_sec {ops : Array Oper} {rest : List Oper} {o : Oper} {a : Act} {Q : Exit → Act → World → Prop} (hgd : o.guard = none) (s x : Operand)
    (B : Nat) (v : Value) (ps : List Sec) (p : Sec) (w0 wr : World) (T : TypeId) (hown : OwnSec wr B v ps) (hb : Below B w0 wr) (hB : B ≤ w0.heap.size) (hl : ps.length ≤ 1048577)
    (ho : o.op = .call { callee := .builtin .append, args := #[s, x], argTypes := #[22, 22] })
    (hs : a.eval s = v) (hx : a.eval x = .slice (some ⟨wr.heap.size, 0, none⟩) 1 1)
    (h : ∀ v' w', OwnSec w' B v' (ps ++ [p]) → Below B w0 w' → wpList Tryz.prog ops Q rest (a.put o.dst v') w') :
    wpList Tryz.prog ops Q (o :: rest) a (wr.alloc (.cells #[.int .i64 p.1, .int .i64 p.2.1, .string p.2.2] T)) := by
  obtain ⟨i0, hi, hz0, hz1, hz2⟩ := secinfo_parts infoSec
  have hsz := hb.size
  have hrow : (wr.alloc (.cells #[.int .i64 p.1, .int .i64 p.2.1, .string p.2.2] T)).ownsRow B 52 3 v ps.length (secV ps) := hown.below ((Below.refl _ _).alloc (Nat.le_refl _) _)
  refine wpList_append_own _ hgd s x 22 ho B 52 i0 (.agg #[.int .i64 0, .int .i64 0, .string ⟨#[]⟩]) 3 32 Tryz.underlying22 hi hz0 hz1 hz2 rfl (by decide) v ps.length (secV ps) hs hrow ⟨wr.heap.size, 0, none⟩ 1 1 [.int .i64 p.1, .int .i64 p.2.1, .string p.2.2] hx rfl (sec_cells wr p T) (by intro u hu; simp at hu; rcases hu with rfl | rfl | rfl <;> rfl) (by unfold maxLen; omega) (by omega) (by simp; omega) ?_
  intro v' w' h2 h3 _
  refine h v' w' ?_ ?_
  · unfold OwnSec
    rw [secV_app, List.length_append, List.length_singleton]
    exact h2
  · exact (hb.alloc (Nat.le_trans hB hb.size) _).grown h3 (by simp; omega) (fun k hk => (hrow.lt k hk).1)
end Go.Proofs.YtlelcecbpahliaaGreatDoor
