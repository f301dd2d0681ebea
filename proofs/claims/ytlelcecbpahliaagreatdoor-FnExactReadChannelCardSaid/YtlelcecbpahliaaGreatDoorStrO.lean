/- Rows of strings: appending. -/
import Derived.Test.YtlelcecbpahliaaGreatDoorListI
namespace Go.Proofs.YtlelcecbpahliaaGreatDoor
open Go.ChangeShapes Go.WideShapes Go.ChangeAt Go.RowKit Pm

def strO (ps : List ByteArray) : List Value := ps.map Value.string
/-- An owned row of strings. -/
def OwnSO (w : World) (B : Nat) (v : Value) (l : List ByteArray) : Prop := w.ownsRow B 9 1 v l.length (strO l)
theorem OwnSO.below {w w' : World} {B : Nat} {v : Value} {l : List ByteArray} (h : OwnSO w B v l) (hb : Below w.heap.size w w') : OwnSO w' B v l := own_below h hb
theorem OwnSO.none (w : World) (B : Nat) : OwnSO w B (.slice none 0 0) [] := ⟨rfl, .inl ⟨rfl, rfl⟩⟩
theorem str_cellsO (wr : World) (x : Value) (T : TypeId) : ∀ j u, [x][j]? = some u → (wr.alloc (.cells #[x] T)).cell? ((⟨wr.heap.size, 0, Option.none⟩ : Addr).add j) = some u := by
  intro j u hj
  match j, hj with
  | 0, hj => simp at hj; subst hj; simp [Addr.add]
theorem wpList_app_so {ops : Array Oper} {rest : List Oper} {o : Oper} {a : Act} {Q : Exit → Act → World → Prop} (hgd : o.guard = Option.none) (s x : Operand)
    (B : Nat) (v : Value) (l : List ByteArray) (c : ByteArray) (w0 wr : World) (T : TypeId) (hown : OwnSO wr B v l) (hb : Below B w0 wr) (hB : B ≤ w0.heap.size) (hl : l.length ≤ 1048577)
    (ho : o.op = .call { callee := .builtin .append, args := #[s, x], argTypes := #[49, 49] })
    (hs : a.eval s = v) (n : Nat) (hn : wr.heap.size = n) (hx : a.eval x = .slice (some ⟨n, 0, Option.none⟩) 1 1)
    (h : ∀ v' w', OwnSO w' B v' (l ++ [c]) → Below B w0 w' → wpList Tryz.prog ops Q rest (a.put o.dst v') w') :
    wpList Tryz.prog ops Q (o :: rest) a (wr.alloc (.cells #[.string c] T)) := by
  subst hn
  obtain ⟨i0, hi, hz0, hz1, hz2⟩ := info_parts infoStr
  have hsz := hb.size
  have hrow : (wr.alloc (.cells #[.string c] T)).ownsRow B 9 1 v l.length (strO l) := OwnSO.below hown ((Below.refl _ _).alloc (Nat.le_refl _) _)
  refine wpList_append_own _ hgd s x 49 ho B 9 i0 (.string ⟨#[]⟩) 1 16 Tryz.underlying49 hi hz0 hz1 hz2 rfl (by decide) v l.length (strO l) hs hrow ⟨wr.heap.size, 0, Option.none⟩ 1 1 [.string c] hx rfl (str_cellsO wr _ T) (by intro u hu; simp at hu; subst hu; rfl) (by unfold maxLen; omega) (by omega) (by simp; omega) ?_
  intro v' w' h2 h3 _
  refine h v' w' ?_ ?_
  · unfold OwnSO
    have e2 : strO (l ++ [c]) = strO l ++ [.string c] := by simp [strO]
    rw [e2, List.length_append, List.length_singleton]
    exact h2
  · exact (hb.alloc (Nat.le_trans hB hb.size) _).grown h3 (by simp; omega) (fun k hk => (hrow.lt k hk).1)
theorem OwnSO.join {w : World} {B : Nat} {v : Value} {l : List ByteArray} (h : OwnSO w B v l) (h0 : 0 < l.length) (hl : l.length ≤ 1000) (sep : ByteArray) (hj : (Lib.join (l.map (·.data.toList)) sep.data.toList).length ≤ 100000) :
    Calls Tryz.prog 52 #[v, .string sep] w fun e w' => e = .returned (.string ⟨(Lib.join (l.map (·.data.toList)) sep.data.toList).toArray⟩) ∧ Below w.heap.size w w' := by
  obtain ⟨g, cap, hv, hcap, hcm⟩ : ∃ g cap, v = .slice (some ⟨g, 0, Option.none⟩) l.length cap ∧ l.length ≤ cap ∧ True := by
    rcases h.2 with ⟨_, hz⟩ | ⟨g, cap, cur, e, _, _, h6, _⟩
    · exact absurd hz (by omega)
    · exact ⟨g, cap, e, by simpa using h6, trivial⟩
  subst hv
  have hcs : ∀ (j : Nat) x, l[j]? = some x → w.cell? ⟨g, 0 + j, Option.none⟩ = some (.string x) := by
    intro j x hx
    have hlj := (List.getElem?_eq_some_iff.1 hx).1
    have := World.ownsRow.cellAt h j (by omega)
    rw [Nat.zero_add, this]
    simp only [strO, List.getElem?_map, hx, Option.map_some]
  have hsz : g < w.heap.size := World.block_lt_of_cell? _ _ (hcs 0 l[0] (List.getElem?_eq_getElem (by omega)))
  have hJ := Any.strings_Join Tryz.lays156 Tryz.Builder_Extra_156 g 0 cap l sep w hcs hsz (by omega) hcap (by omega)
  exact hJ
end Go.Proofs.YtlelcecbpahliaaGreatDoor
