/- Points appended to a row of the call's own. -/
import Derived.Test.YtlelcecbpahliaaGreatDoorChnK
import Derived.Laws.AppendOwn
namespace Go.Proofs.YtlelcecbpahliaaGreatDoor
open Go.ChangeShapes Go.WideShapes Go.ChangeAt Go.RowKit Pm

theorem ptsV_appP (ps qs : Pts) : ptsV (ps ++ qs) = ptsV ps ++ ptsV qs := by simp [ptsV]
theorem ptcellsP (wr : World) (x y : Int) (T : TypeId) : ∀ j u, [Value.int .i64 x, .int .i64 y][j]? = some u → (wr.alloc (.cells #[.int .i64 x, .int .i64 y] T)).cell? ((⟨wr.heap.size, 0, none⟩ : Addr).add j) = some u := by
  intro j u hj
  match j, hj with
  | 0, hj => simp at hj; subst hj; simp [Addr.add]
  | 1, hj => simp at hj; subst hj; simp [Addr.add]
theorem wpList_app_pt {ops : Array Oper} {rest : List Oper} {o : Oper} {a : Act} {Q : Exit → Act → World → Prop} (hgd : o.guard = none) (s x : Operand)
    (B : Nat) (v : Value) (ps : Pts) (px py : Int) (wr : World) (T : TypeId) (hown : OwnPt wr B v ps) (hB : B ≤ wr.heap.size) (hl : ps.length ≤ 1048577)
    (ho : o.op = .call { callee := .builtin .append, args := #[s, x], argTypes := #[28, 28] })
    (hs : a.eval s = v) (n : Nat) (hn : wr.heap.size = n) (hx : a.eval x = .slice (some ⟨n, 0, none⟩) 1 1)
    (h : ∀ v' w', OwnPt w' B v' (ps ++ [(px, py)]) → Below B wr w' → wpList Tryz.prog ops Q rest (a.put o.dst v') w') :
    wpList Tryz.prog ops Q (o :: rest) a (wr.alloc (.cells #[.int .i64 px, .int .i64 py] T)) := by
  subst hn
  obtain ⟨i0, hi, hz0, hz1, hz2⟩ := ptinfo_parts infoPt
  have hrow : (wr.alloc (.cells #[.int .i64 px, .int .i64 py] T)).ownsRow B 44 2 v ps.length (ptsV ps) := hown.below ((Below.refl _ _).alloc (Nat.le_refl _) _)
  refine wpList_append_own _ hgd s x 28 ho B 44 i0 (.agg #[.int .i64 0, .int .i64 0]) 2 16 Tryz.underlying28 hi hz0 hz1 hz2 rfl (by decide) v ps.length (ptsV ps) hs hrow ⟨wr.heap.size, 0, none⟩ 1 1 [.int .i64 px, .int .i64 py] hx rfl (ptcellsP wr px py T) (by intro u hu; simp at hu; rcases hu with rfl | rfl <;> rfl) (by unfold maxLen; omega) (by omega) (by simp; omega) ?_
  intro v' w' h2 h3 _
  refine h v' w' ?_ ?_
  · unfold OwnPt
    rw [ptsV_appP, List.length_append, List.length_singleton]
    exact h2
  · exact ((Below.refl B wr).alloc hB _).grown h3 (by simp; omega) (fun k hk => (hrow.lt k hk).1)
end Go.Proofs.YtlelcecbpahliaaGreatDoor
