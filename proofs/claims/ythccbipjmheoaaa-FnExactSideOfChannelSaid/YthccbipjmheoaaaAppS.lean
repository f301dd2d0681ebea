/- A segment appended to a row of the call's own, inside a fence; where the new row lies. -/
import Derived.Test.YthccbipjmheoaaaSgaI
import Derived.Laws.AppendOwn
import Derived.Laws.OwnMore
import Derived.ArgAppend
namespace Go.Proofs.Ythccbipjmheoaaa
open Go.ChangeShapes Go.WideShapes Go.ChangeAt Go.RowKit Go.Shelf Pm

theorem infoSg : (Try.prog.info? 79).map (fun i => (i.zero, i.size, i.bytes)) = some (some (.agg #[.int .i64 0, .int .i64 0, .int .i64 0, .int .i64 0, .int .i64 0, .int .i64 0]), 6, 48) := by kernel_rfl
noncomputable def segsV (ps : Pts) (pre : List Nat) : List Value := pre.flatMap fun i => (segC ps i).toList
theorem segsV_len (ps : Pts) (pre : List Nat) : (segsV ps pre).length = pre.length * 6 := by
  induction pre with
  | nil => rfl
  | cons x xs ih =>
    have : (segsV ps (x :: xs)).length = 6 + (segsV ps xs).length := by simp only [segsV, List.flatMap_cons, List.length_append]; rfl
    rw [this, ih, List.length_cons]
    omega
theorem segsV_snoc (ps : Pts) (pre : List Nat) (i : Nat) : segsV ps (pre ++ [i]) = segsV ps pre ++ (segC ps i).toList := by simp [segsV]
def OwnSg (w : World) (B : Nat) (v : Value) (ps : Pts) (pre : List Nat) : Prop := w.ownsRow B 79 6 v pre.length (segsV ps pre)
theorem OwnSg.mono {w : World} {B B' : Nat} {v : Value} {ps : Pts} {pre : List Nat} (h : OwnSg w B v ps pre) (hB : B' ≤ B) : OwnSg w B' v ps pre := by
  refine ⟨h.1, ?_⟩
  rcases h.2 with h2 | ⟨g, cap, cur, h1, h3, h4⟩
  · exact .inl h2
  · exact .inr ⟨g, cap, cur, h1, Nat.le_trans hB h3, h4⟩
/-- Where the new row lies: where the old one lay, or in a new block. -/
def NewRow (w w' : World) (v v' : Value) : Prop := v'.ownBlock = v.ownBlock ∨ ∃ g, v'.ownBlock = some g ∧ w.heap.size ≤ g ∧ g < w'.heap.size
set_option maxHeartbeats 1000000 in
theorem run_app_seg (w : World) (B : Nat) (v : Value) (ps : Pts) (pre : List Nat) (i : Nat) (ty : TypeId) (ad : Addr) (hown : OwnSg w B v ps pre) (hB : B ≤ w.heap.size) (hl : pre.length ≤ 1048576)
    (hc : ∀ j u, (segC ps i).toList[j]? = some u → w.cell? (ad.add j) = some u) :
    ∃ v' w', (Builtin.append_ #[109, 109] ty #[v, .slice (some ad) 1 1]).run Try.prog w = .ok v' w' ∧ OwnSg w' B v' ps (pre ++ [i]) ∧ w.grownBy w' v.ownBlock ∧ NewRow w w' v v' := by
  obtain ⟨i0, hi, hz0, hz1, hz2⟩ := ptinfo_parts infoSg
  have h1c : ∀ u ∈ (segC ps i).toList, u.oneCell' = true := by
    intro u hu
    simp [segC] at hu
    rcases hu with rfl | rfl | rfl | rfl | rfl | rfl <;> rfl
  have hln : (segC ps i).toList.length = 1 * 6 := by simp [segC]
  unfold OwnSg at *
  rw [segsV_snoc, List.length_append, List.length_singleton]
  rcases hown.2 with ⟨rfl, hk⟩ | ⟨g, cap, cur, rfl, hg, hh, hcap, hmx, hsz, htk⟩
  · have hpre : pre = [] := List.length_eq_zero_iff.1 hk
    subst hpre
    obtain ⟨v', w', hrun, r1, r2, _⟩ := run_append_own (P := Try.prog) w w.heap.size 109 ty 79 i0 (.agg #[.int .i64 0, .int .i64 0, .int .i64 0, .int .i64 0, .int .i64 0, .int .i64 0]) 6 48 Try.underlying109 hi hz0 hz1 hz2 rfl (by decide) (.slice none 0 0) 0 [] (World.ownsRow_nil w _ _ _) ad 1 1 (segC ps i).toList hln hc h1c (by unfold maxLen; omega) (by omega) (Nat.le_refl _)
    refine ⟨v', w', hrun, ?_, r2, ?_⟩
    · exact OwnSg.mono (ps := ps) (pre := [i]) (by unfold OwnSg; simpa [segsV] using r1) hB
    · rcases r1.2 with ⟨_, h0⟩ | ⟨g, cap, cur, rfl, hg, hh, _⟩
      · omega
      · exact .inr ⟨g, rfl, hg, (Array.getElem?_eq_some_iff.1 hh).1⟩
  · by_cases hr : pre.length + 1 ≤ cap
    · obtain ⟨w', hrun, r1, r2⟩ := run_append_fits (P := Try.prog) w B 109 ty 79 i0 6 Try.underlying109 hi hz1 g pre.length cap (segsV ps pre) hown ad 1 1 (segC ps i).toList hln hc h1c hr
      exact ⟨_, w', hrun, r1, r2, .inl rfl⟩
    · have holds : ∀ j u, (segsV ps pre)[j]? = some u → w.cell? ((⟨g, 0, none⟩ : Addr).add j) = some u := by
        intro j u hj
        rw [Addr.add_lit]
        rw [← htk, List.getElem?_take] at hj
        split at hj
        · simp [World.cell?, hh]
          simpa using hj
        · cases hj
      obtain ⟨v', w', hrun, r1, r2⟩ := run_append_arg_grows (P := Try.prog) w 109 ty 79 i0 (.agg #[.int .i64 0, .int .i64 0, .int .i64 0, .int .i64 0, .int .i64 0, .int .i64 0]) 6 48 Try.underlying109 hi hz0 hz1 hz2 rfl (by decide) ⟨g, 0, none⟩ pre.length cap (segsV ps pre) hown.1 holds ad 1 1 (segC ps i).toList hln hc (by omega) (by unfold maxLen; omega) (by omega)
      refine ⟨v', w', hrun, ?_, ?_, ?_⟩
      · have h := OwnSg.mono (ps := ps) (pre := pre ++ [i]) (by unfold OwnSg; rw [segsV_snoc, List.length_append, List.length_singleton]; exact r1) hB
        unfold OwnSg at h
        rw [segsV_snoc, List.length_append, List.length_singleton] at h
        exact h
      · exact ⟨r2.os, r2.tape, r2.output, r2.size, fun k hk _ => r2.block k hk (by simp)⟩
      · rcases r1.2 with ⟨_, h0⟩ | ⟨g', cap', cur', rfl, hg', hh', _⟩
        · omega
        · exact .inr ⟨g', rfl, hg', (Array.getElem?_eq_some_iff.1 hh').1⟩
theorem wpListIn_app_seg {F : Fence} {n : Nat} {ops : Array Oper} {rest : List Oper} {o : Oper} {a : Act} {Q : Exit → Act → World → Prop} (hg : o.guard = none) (s x : Operand)
    (hop : o.op = Op.call { callee := Callee.builtin Builtin.append, args := #[s, x], argTypes := #[109, 109] }) (w : World) (B : Nat) (v : Value) (ps : Pts) (pre : List Nat) (i : Nat) (ad : Addr)
    (hs : a.eval s = v) (hx : a.eval x = .slice (some ad) 1 1) (hown : OwnSg w B v ps pre) (hB : B ≤ w.heap.size) (hl : pre.length ≤ 1048576) (hc : ∀ j u, (segC ps i).toList[j]? = some u → w.cell? (ad.add j) = some u)
    (hK : ∀ v' w', OwnSg w' B v' ps (pre ++ [i]) → w.grownBy w' v.ownBlock → NewRow w w' v v' → wpListIn F n Try.prog ops Q rest (a.put o.dst v') w') :
    wpListIn F n Try.prog ops Q (o :: rest) a w := by
  refine wpListIn_plain hg fun K hK' => ?_
  obtain ⟨v', w', hrun, r1, r2, r3⟩ := run_app_seg w B v ps pre i o.type ad hown hB hl hc
  unfold Oper.wpIn
  refine ⟨?_, ?_⟩
  · simp [Oper.about, hop, resolve, Target.leads, Sem.run_pure]
  · rw [Oper.semAt_plain F _ _ (by rw [hop]; intro c hc'; cases hc')]
    simp [execOp, hop, resolve, invoke, builtin, hs, hx, hrun, Result.andThen]
    exact hK' _ _ (hK v' w' r1 r2 r3)
/-- Which block a box's slice leads to. -/
def OwnsB (B : Nat) (W : World) (g : Nat) : Prop := ∃ v t fr, W.heap[B]? = some (.cells #[v] t fr) ∧ v.ownBlock = some g
/-- What a round keeps: every row of cells but the box and the row that it leads to; which row that may be. -/
def KeepR (B : Nat) (W W' : World) : Prop := W.heap.size ≤ W'.heap.size ∧ (∀ b, b ≠ B → (∃ cs T fr, W.heap[b]? = some (.cells cs T fr)) → ¬ OwnsB B W b → W'.heap[b]? = W.heap[b]?) ∧
  ∀ g, OwnsB B W' g → OwnsB B W g ∨ (W.heap.size ≤ g ∧ g < W'.heap.size)
theorem KeepR.t {B : Nat} {a b c : World} (h : KeepR B a b) (k : KeepR B b c) : KeepR B a c := by
  refine ⟨Nat.le_trans h.1 k.1, fun x hx hcx hn => ?_, fun g hg => ?_⟩
  · obtain ⟨cs, T, fr, hc⟩ := hcx
    have e := h.2.1 x hx ⟨cs, T, fr, hc⟩ hn
    rw [k.2.1 x hx ⟨cs, T, fr, e.trans hc⟩ ?_, e]
    intro ho
    rcases h.2.2 x ho with h1 | h1
    · exact hn h1
    · have := (Array.getElem?_eq_some_iff.1 hc).1
      omega
  · have h1 := h.1
    have k1 := k.1
    rcases k.2.2 g hg with h2 | h2
    · rcases h.2.2 g h2 with h3 | h3
      · exact .inl h3
      · exact .inr (by omega)
    · exact .inr (by omega)
theorem OwnsB.back {B g : Nat} {w w' : World} (hl : B < w.heap.size) (hb : Below w.heap.size w w') (h : OwnsB B w' g) : OwnsB B w g := by
  obtain ⟨v, t, fr, h1, h2⟩ := h
  rw [hb.block B hl] at h1
  exact ⟨v, t, fr, h1, h2⟩
theorem KeepR.below {B : Nat} {w w' : World} (hl : B < w.heap.size) (h : Below w.heap.size w w') : KeepR B w w' :=
  ⟨h.size, fun g _ ⟨_, _, _, hc⟩ _ => h.block g (Array.getElem?_eq_some_iff.1 hc).1, fun _ hg => .inl (hg.back hl h)⟩
theorem KeepR.b {B : Nat} (w : World) (l : Nat) (o o' : Obj) (hl : B < l) (h : w.heap[l]? = some o) (ho : o.isCells = false) : KeepR B w (w.putObj l o') := by
  have g := grownBy_putObj' w l o'
  refine ⟨g.size, fun k hk ⟨cs, T, fr, hc⟩ _ => ?_, fun x hx => .inl ?_⟩
  · have hne : k ≠ l := by
      rintro rfl
      rw [h] at hc
      cases hc
      simp [Obj.isCells] at ho
    exact World.putObj_heap_other (fun e => hne e)
  · obtain ⟨v, t, fr, h1, h2⟩ := hx
    rw [World.putObj_heap_other (fun e => by omega)] at h1
    exact ⟨v, t, fr, h1, h2⟩
theorem KeepR.cell {B b j : Nat} {w w' : World} {v : Value} (h : KeepR B w w') (hb : b ≠ B) (hn : ¬ OwnsB B w b) (hc : w.cell? ⟨b, j, none⟩ = some v) : w'.cell? ⟨b, j, none⟩ = some v := by
  have : ∃ cs T fr, w.heap[b]? = some (.cells cs T fr) := by
    unfold World.cell? at hc
    simp only at hc
    split at hc
    · rename_i cs T fr e; exact ⟨cs, T, fr, e⟩
    · cases hc
  have e := h.2.1 b hb this hn
  unfold World.cell? at hc ⊢
  simp only at hc ⊢
  rw [e]; exact hc
end Go.Proofs.Ythccbipjmheoaaa
