/- Rows of numbers that a call has made: small words. -/
import Derived.Test.YtgnajfdcbpfdjaaDoorSlices
import Derived.Test.YtgnajfdcbpfdjaaDoorOkX
import Derived.Laws.AppendOwn
import Derived.Laws.CopyOwn
namespace Go.Proofs.YtgnajfdcbpfdjaaDoor
open Go.ChangeShapes Go.WideShapes Go.ChangeAt Go.RowKit Pm

/-- Numbers as values. -/
def vals (zs : List Int) : List Value := zs.map (Value.int .i64)
theorem vals_len (zs : List Int) : (vals zs).length = zs.length := by simp [vals]
theorem vals_snoc (zs : List Int) (z : Int) : vals (zs ++ [z]) = vals zs ++ [.int .i64 z] := by simp [vals]
theorem vals_app (zs ys : List Int) : vals (zs ++ ys) = vals zs ++ vals ys := by simp [vals]
/-- An owned row of numbers. -/
def Ints1 (w : World) (B : Nat) (v : Value) (zs : List Int) : Prop := w.ownsRow B 2 1 v zs.length (vals zs)
theorem Ints1.below {w w' : World} {B : Nat} {v : Value} {zs : List Int} (h : Ints1 w B v zs) (hb : Below w.heap.size w w') : Ints1 w' B v zs := own_below h hb
theorem Ints1.mono {w : World} {B B' : Nat} {v : Value} {zs : List Int} (h : Ints1 w B v zs) (hB : B' ≤ B) : Ints1 w B' v zs := by
  refine ⟨h.1, ?_⟩
  rcases h.2 with h2 | ⟨g, cap, cur, h1, h3, h4⟩
  · exact .inl h2
  · exact .inr ⟨g, cap, cur, h1, Nat.le_trans hB h3, h4⟩
theorem Ints1.none (w : World) (B : Nat) : Ints1 w B (.slice none 0 0) [] := ⟨rfl, .inl ⟨rfl, rfl⟩⟩
theorem Ints1.start (w : World) : Ints1 (w.alloc (.cells #[] 2)) w.heap.size (.slice (some ⟨w.heap.size, 0, Option.none⟩) 0 0) [] := World.ownsRow_lit w #[] 0 (Nat.le_refl _) (by unfold maxLen; omega) rfl
theorem Ints1.lit (w : World) (B g : Nat) (hg : w.heap.size = g) (hB : B ≤ g) : Ints1 (w.alloc (.cells #[] 2)) B (.slice (some ⟨g, 0, Option.none⟩) 0 0) [] := by
  subst hg
  exact (Ints1.start w).mono hB
theorem Ints1.ints {w : World} {B : Nat} {v : Value} {zs : List Int} (h : Ints1 w B v zs) (hl : zs.length ≤ 1048576) : IntsAre .i64 w v zs := ints_of_own h (by omega)
theorem Ints1.snoc {w : World} {B : Nat} {v : Value} {zs ys : List Int} {z : Int} (e : ys = zs ++ [z]) (h : w.ownsRow B 2 1 v (zs.length + 1) (vals zs ++ [.int .i64 z])) : Ints1 w B v ys := by
  subst e
  unfold Ints1
  rw [vals_snoc, List.length_append, List.length_singleton]; exact h
theorem Ints1.app {w : World} {B : Nat} {v : Value} {zs xs ys : List Int} {n : Nat} (e : ys = zs ++ xs) (hn : n = ys.length) (h : w.ownsRow B 2 1 v n (vals zs ++ vals xs)) : Ints1 w B v ys := by
  subst e hn
  unfold Ints1
  rw [vals_app]; exact h
theorem Ints1.form {w : World} {B : Nat} {v : Value} {zs : List Int} (h : Ints1 w B v zs) : (v = .slice Option.none 0 0 ∧ zs = []) ∨ ∃ g cap, v = .slice (some ⟨g, 0, Option.none⟩) zs.length cap ∧ B ≤ g := by
  rcases h.2 with ⟨h1, h2⟩ | ⟨g, cap, cur, h1, h3, _⟩
  · exact .inl ⟨h1, List.length_eq_zero_iff.1 (by simpa using h2)⟩
  · exact .inr ⟨g, cap, h1, h3⟩
theorem Ints1.len {w : World} {B : Nat} {v : Value} {zs : List Int} (h : Ints1 w B v zs) : ∃ a c, v = .slice a zs.length c := by
  rcases h.form with ⟨rfl, rfl⟩ | ⟨g, c, rfl, _⟩
  · exact ⟨_, _, rfl⟩
  · exact ⟨_, _, rfl⟩
/-- What a call returns that has made a row of numbers. -/
def IntsRet (zs : List Int) (w : World) (e : Ending) (w' : World) : Prop := ∃ v, e = .returned v ∧ Ints1 w' w.heap.size v zs ∧ Below w.heap.size w w'
/-- Appending to an owned row of numbers: where the new row lies. -/
theorem append_where (w : World) (B : Nat) (ty : TypeId) (v : Value) (zs ns : List Int) (hown : Ints1 w B v zs)
    (ad : Addr) (c : Nat) (hnews : ∀ j u, (vals ns)[j]? = some u → w.cell? (ad.add j) = some u) (hn : 0 < ns.length) (hl : zs.length + ns.length ≤ 1048576) (hbase : B ≤ w.heap.size) :
    ∃ v' w', (Builtin.append_ #[75, 75] ty #[v, .slice (some ad) ns.length c]).run Tryd.prog w = .ok v' w' ∧ Ints1 w' B v' (zs ++ ns) ∧ w.grownBy w' v.ownBlock ∧ (v'.ownBlock = v.ownBlock ∨ v'.ownBlock = some w.heap.size) := by
  obtain ⟨i, hi, hz, hsize, hby⟩ := info_parts info64
  have hlv : (vals ns).length = ns.length * i.size := by rw [vals_len, hsize, Nat.mul_one]
  have h1 : ∀ u ∈ vals ns, u.oneCell' = true := by
    intro u hu
    obtain ⟨z, _, rfl⟩ := List.mem_map.1 hu
    rfl
  obtain ⟨v', w', hr, h2, h3, _⟩ := run_append_own (P := Tryd.prog) w B 75 ty 2 i (.int .i64 0) 1 8 Tryd.underlying75 hi hz hsize hby rfl (by decide) v zs.length (vals zs) hown ad ns.length c (vals ns) (by rw [vals_len, Nat.mul_one]) hnews h1 (by unfold maxLen; omega) (by omega) hbase
  refine ⟨v', w', hr, Ints1.app rfl (by simp) h2, h3, ?_⟩
  rcases hown.2 with ⟨rfl, h0⟩ | ⟨g, cap, cur, rfl, hbg, hg, hnc, hcm, hcs, htake⟩
  · have hr2 := run_append_nil (P := Tryd.prog) w 75 ty 2 i (.int .i64 0) Tryd.underlying75 hi hz ad ns.length c (vals ns) hlv hnews hn (by omega) (by rw [hby]; omega)
    rw [hr] at hr2
    simp only [Result.ok.injEq] at hr2
    rw [hr2.1]; exact .inr rfl
  · by_cases hroom : zs.length + ns.length ≤ cap
    · have hr2 := run_append_room (P := Tryd.prog) w 75 ty 2 i Tryd.underlying75 hi g zs.length cap cur hg ad ns.length c (vals ns) hlv hnews h1 hroom (by rw [vals_len, hsize, hcs]; omega)
      rw [hr] at hr2
      simp only [Result.ok.injEq] at hr2
      rw [hr2.1]; exact .inl rfl
    · have holds : ∀ j u, (vals zs)[j]? = some u → w.cell? ((⟨g, 0, none⟩ : Addr).add j) = some u := hown.cells (g := g) rfl
      have hr2 := run_append_grow (P := Tryd.prog) w 75 ty 2 i (.int .i64 0) Tryd.underlying75 hi hz ⟨g, 0, none⟩ zs.length cap (vals zs) (by rw [vals_len, hsize, Nat.mul_one]) holds ad ns.length c (vals ns) hlv hnews (by omega) (by omega) (growslice_fits (by omega) (by rw [hby]; omega))
      rw [hr] at hr2
      simp only [Result.ok.injEq] at hr2
      rw [hr2.1]; exact .inr rfl
theorem below_app1 {B : Nat} {w wr w1 : World} {o : Obj} {E : TypeId} {v : Value} {n : Nat} {xs : List Value} (hb : Below B w wr) (hB : B ≤ w.heap.size) (hown : wr.ownsRow B E 1 v n xs) (hg : (wr.alloc o).grownBy w1 v.ownBlock) : Below B w w1 :=
  (hb.alloc (Nat.le_trans hB hb.size) o).grown hg (by have := hb.size; simp; omega) (fun k hk => (hown.lt k hk).1)
theorem news_cells (wr : World) (ns : List Int) (T : TypeId) : ∀ j u, (vals ns)[j]? = some u → (wr.alloc (.cells (vals ns).toArray T)).cell? ((⟨wr.heap.size, 0, none⟩ : Addr).add j) = some u := by
  intro j u hj
  have e : (⟨wr.heap.size, 0, none⟩ : Addr).add j = ⟨wr.heap.size, j, none⟩ := by simp only [Addr.add]; by_cases h : j = 0 <;> simp [h]
  rw [e, World.cell?_alloc_new]
  simpa using hj
/-- A block that an owned row does not lie in. -/
def Apart (w : World) (v : Value) (G : Nat) : Prop := G < w.heap.size ∧ v.ownBlock ≠ some G
theorem wpList_app_ints {ops : Array Oper} {rest : List Oper} {o : Oper} {a : Act} {Q : Exit → Act → World → Prop} (hgd : o.guard = none) (s x : Operand)
    (B : Nat) (v : Value) (zs ns : List Int) (w0 wr : World) (T : TypeId) (hown : Ints1 wr B v zs) (hb : Below B w0 wr) (hB : B ≤ w0.heap.size) (hn : 0 < ns.length) (hl : zs.length + ns.length ≤ 1048576)
    (ho : o.op = .call { callee := .builtin .append, args := #[s, x], argTypes := #[75, 75] })
    (hs : a.eval s = v) (hx : a.eval x = .slice (some ⟨wr.heap.size, 0, none⟩) ns.length ns.length)
    (h : ∀ v' w', Ints1 w' B v' (zs ++ ns) → Below B w0 w' → (∀ G, Apart wr v G → Apart w' v' G ∧ w'.heap[G]? = wr.heap[G]?) → wpList Tryd.prog ops Q rest (a.put o.dst v') w') :
    wpList Tryd.prog ops Q (o :: rest) a (wr.alloc (.cells (vals ns).toArray T)) := by
  refine wpList_plain hgd fun _ hK => ?_
  have hsz := hb.size
  obtain ⟨v', w', hr, h2, h3, h4⟩ := append_where (wr.alloc (.cells (vals ns).toArray T)) B o.type v zs ns (hown.below ((Below.refl _ _).alloc (Nat.le_refl _) _)) ⟨wr.heap.size, 0, none⟩ ns.length (news_cells wr ns T) hn hl (by simp; omega)
  unfold Oper.wp execOp
  simp only [ho, resolve, invoke, builtin, Sem.run_bind, Sem.run_pure, Result.andThen_ok, List.map_toArray, List.map_cons, List.map_nil, hs, hx, hr]
  refine hK _ _ (h v' w' h2 (below_app1 hb hB hown h3) fun G hG => ?_)
  have e0 : (wr.alloc (.cells (vals ns).toArray T)).heap.size = wr.heap.size + 1 := by simp
  have h3s := h3.size
  refine ⟨⟨by have := hG.1; omega, ?_⟩, ?_⟩
  · rcases h4 with h4 | h4
    · rw [h4]; exact hG.2
    · rw [h4, e0]; intro e; have := hG.1; cases e; omega
  · rw [h3.block G (by have := hG.1; omega) (fun e => hG.2 e.symm)]
    simp only [World.alloc]
    rw [Array.getElem?_push_lt (by exact hG.1)]
    exact (Array.getElem?_eq_getElem hG.1).symm
/-- Copying numbers to the head of an owned row. -/
theorem run_copy_ints (ty : TypeId) (B : Nat) (dv sv : Value) (cur zs : List Int) (wr : World) (hown : Ints1 wr B dv cur) (hsrc : IntsAre .i64 wr sv zs) (hle : zs.length ≤ cur.length) :
    ∃ w', (Builtin.copy_ #[75, 75] ty #[dv, sv]).run Tryd.prog wr = .ok (goInt zs.length) w' ∧ Ints1 w' B dv (zs ++ cur.drop zs.length) ∧ Below B wr w' := by
  have hsz : (Tryd.prog.info? 2).map (·.size) = some 1 := by kernel_rfl
  by_cases h0 : zs = []
  · subst h0
    obtain ⟨da, dc, rfl⟩ := hown.len
    have e2 : ∃ sa sc, sv = .slice sa 0 sc := by
      rcases hsrc with ⟨rfl, _⟩ | ⟨b, off, cap, rfl, _, _⟩
      · exact ⟨_, _, rfl⟩
      · exact ⟨_, _, rfl⟩
    obtain ⟨sa, sc, rfl⟩ := e2
    exact ⟨wr, run_copy_none (P := Tryd.prog) wr 75 75 ty 2 da sa cur.length dc 0 sc Tryd.underlying75 hsz (Nat.min_eq_left (Nat.zero_le _)), hown, Below.refl _ _⟩
  · have hpos := List.length_pos_iff.2 h0
    rcases hsrc with ⟨_, e⟩ | ⟨b, off, cap, rfl, hm, hc⟩
    · exact absurd e h0
    rcases hown.2 with ⟨_, e⟩ | ⟨g, dcap, cells, e1, hB, hg, hnc, hcm, hcs, htake⟩
    · omega
    subst e1
    have hlen : (zs ++ cur.drop zs.length).length = cur.length := by rw [List.length_append, List.length_drop]; omega
    have hcl : cells.toList.length = dcap := by simpa using hcs
    have e3 : cells.toList.take cur.length = vals cur := by simpa using htake
    have hrun := run_copy_row (P := Tryd.prog) wr 75 75 ty 2 g 0 cur.length dcap ⟨b, off, none⟩ zs.length cap cells 2 (vals zs) Tryd.underlying75 hsz hg (by rw [vals_len]; exact (Nat.min_eq_left hle).symm) (by
      intro j v hj
      have hlj : j < zs.length := by have := (List.getElem?_eq_some_iff.1 hj).1; rwa [vals_len] at this
      have e : (⟨b, off, none⟩ : Addr).add j = ⟨b, off + j, none⟩ := by simp only [Addr.add]; by_cases h : j = 0 <;> simp [h]
      rw [e, hc j hlj]
      simpa [vals, hlj] using hj) (by rw [vals_len, hcs]; omega) (by
      intro v hv
      obtain ⟨z, _, rfl⟩ := List.mem_map.1 hv
      rfl)
    rw [vals_len] at hrun
    refine ⟨_, hrun, ⟨by rw [vals_len, Nat.mul_one], .inr ⟨g, dcap, _, by rw [hlen], hB, setRow_heap wr g cells _ 2 _ hg, by rw [hlen]; exact hnc, hcm, ?_, ?_⟩⟩, below_setRow (Below.refl _ _) hB _⟩
    · simp only [List.size_toArray, List.length_append, List.length_take, List.length_drop, vals_len, hcl]; omega
    · rw [hlen, Nat.mul_one, List.take_zero, List.nil_append, Nat.zero_add, List.take_append, vals_len, vals_app, List.take_of_length_le (by rw [vals_len]; exact hle), ← List.drop_take, e3]
      simp [vals, List.map_drop]
theorem cell_of_block {w w' : World} {G : Nat} (h : w'.heap[G]? = w.heap[G]?) (i : Nat) : w'.cell? ⟨G, i, none⟩ = w.cell? ⟨G, i, none⟩ := World.cell?_of_block (w := w) h
end Go.Proofs.YtgnajfdcbpfdjaaDoor
