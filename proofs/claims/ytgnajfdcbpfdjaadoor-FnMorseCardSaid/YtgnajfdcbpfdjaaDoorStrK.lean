/- Rows of strings: appending; a text's bytes one by one. -/
import Derived.Test.YtgnajfdcbpfdjaaDoorSntI
import Derived.Test.YtgnajfdcbpfdjaaDoorListI
import Derived.Shelf.Strings.Explode
namespace Go.Proofs.YtgnajfdcbpfdjaaDoor
open Go.ChangeShapes Go.WideShapes Go.ChangeAt Go.RowKit Pm

/-- An owned row of strings. -/
def OwnS (w : World) (B : Nat) (v : Value) (l : List ByteArray) : Prop := w.ownsRow B 9 1 v l.length (strV l)
theorem OwnS.below {w w' : World} {B : Nat} {v : Value} {l : List ByteArray} (h : OwnS w B v l) (hb : Below w.heap.size w w') : OwnS w' B v l := own_below h hb
theorem OwnS.none (w : World) (B : Nat) : OwnS w B (.slice none 0 0) [] := ⟨rfl, .inl ⟨rfl, rfl⟩⟩
theorem str_cells (wr : World) (x : Value) (T : TypeId) : ∀ j u, [x][j]? = some u → (wr.alloc (.cells #[x] T)).cell? ((⟨wr.heap.size, 0, Option.none⟩ : Addr).add j) = some u := by
  intro j u hj
  match j, hj with
  | 0, hj => simp at hj; subst hj; simp [Addr.add]
theorem wpList_app_s {ops : Array Oper} {rest : List Oper} {o : Oper} {a : Act} {Q : Exit → Act → World → Prop} (hgd : o.guard = Option.none) (s x : Operand)
    (B : Nat) (v : Value) (l : List ByteArray) (c : ByteArray) (w0 wr : World) (T : TypeId) (hown : OwnS wr B v l) (hb : Below B w0 wr) (hB : B ≤ w0.heap.size) (hl : l.length ≤ 1048577)
    (ho : o.op = .call { callee := .builtin .append, args := #[s, x], argTypes := #[47, 47] })
    (hs : a.eval s = v) (n : Nat) (hn : wr.heap.size = n) (hx : a.eval x = .slice (some ⟨n, 0, Option.none⟩) 1 1)
    (h : ∀ v' w', OwnS w' B v' (l ++ [c]) → Below B w0 w' → wpList Tryd.prog ops Q rest (a.put o.dst v') w') :
    wpList Tryd.prog ops Q (o :: rest) a (wr.alloc (.cells #[.string c] T)) := by
  subst hn
  obtain ⟨i0, hi, hz0, hz1, hz2⟩ := info_parts infoStr
  have hsz := hb.size
  have hrow : (wr.alloc (.cells #[.string c] T)).ownsRow B 9 1 v l.length (strV l) := OwnS.below hown ((Below.refl _ _).alloc (Nat.le_refl _) _)
  refine wpList_append_own _ hgd s x 47 ho B 9 i0 (.string ⟨#[]⟩) 1 16 Tryd.underlying47 hi hz0 hz1 hz2 rfl (by decide) v l.length (strV l) hs hrow ⟨wr.heap.size, 0, Option.none⟩ 1 1 [.string c] hx rfl (str_cells wr _ T) (by intro u hu; simp at hu; subst hu; rfl) (by unfold maxLen; omega) (by omega) (by simp; omega) ?_
  intro v' w' h2 h3 _
  refine h v' w' ?_ ?_
  · unfold OwnS
    have e2 : strV (l ++ [c]) = strV l ++ [.string c] := by simp [strV]
    rw [e2, List.length_append, List.length_singleton]
    exact h2
  · exact (hb.alloc (Nat.le_trans hB hb.size) _).grown h3 (by simp; omega) (fun k hk => (hrow.lt k hk).1)
/-- A text's bytes as texts. -/
def chS (s : ByteArray) : List ByteArray := s.data.toList.map fun b => ⟨#[b]⟩
theorem ext_one (s : ByteArray) (i : Nat) (h : i < s.size) : s.extract i (i + 1) = ⟨#[s[i]]⟩ := by
  refine WideShapes.bytes_inj ?_
  have := Lib.extract_toList s i (i + 1)
  rw [← ByteArray.toList_eq, this, Nat.add_sub_cancel_left, List.drop_eq_getElem_cons (by simpa using h)]
  simp
  rfl
theorem chars_eq (s : ByteArray) : Lib.charsB s = chS s := by
  refine List.ext_getElem (by simp [Lib.charsB, Lib.charsUpTo_length, chS]) fun i h1 h2 => ?_
  have hi : i < s.size := by simpa [chS] using h2
  simp only [Lib.charsB, Lib.charsUpTo, chS, List.getElem_map, List.getElem_range]
  rw [ext_one s i hi, byte_at s i hi]
theorem chars_any (s : ByteArray) (w : World) (hs : s.size ≤ 1048576) (ha : ∀ (j : Nat) b, s.data.toList[j]? = some b → b.toNat < 128) :
    Calls Tryd.prog 25 #[.string s, .string ⟨#[]⟩] w (OwnRet 9 (strV (chS s)) w) := by
  have h := Any.strings_Split_chars { Tryd.laysM146 with } Tryd.laysM146.i9 s ⟨#[]⟩ w rfl (by omega) ha
  refine h.mono fun e w' ⟨he, hw⟩ => ?_
  rw [chars_eq] at hw
  have hlen : (strV (chS s)).length = s.size := by simp [strV, chS]
  have hsz : (w.iter s s.size).heap.size = w.heap.size + 1 := by
    show (w.heap.push (Obj.stringIter s s.size)).size = _
    simp
  refine ⟨_, he, ?_, by rw [hw]; exact ((Below.refl _ _).alloc (Nat.le_refl _) _).alloc (Nat.le_of_lt (Nat.lt_of_lt_of_eq (Nat.lt_succ_self _) hsz.symm)) _⟩
  rw [hw, hlen]
  exact World.ownsRow_lit (w.iter s s.size) (strV (chS s)).toArray s.size (by omega) (by unfold maxLen; omega) (by simp [strV, chS])
end Go.Proofs.YtgnajfdcbpfdjaaDoor
