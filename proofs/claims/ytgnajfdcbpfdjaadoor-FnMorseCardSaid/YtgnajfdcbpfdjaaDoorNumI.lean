/- The program's reading of a number, and the law. -/
import Derived.Test.YtgnajfdcbpfdjaaDoorNumX
import Derived.Test.YtgnajfdcbpfdjaaDoorLaid
import Derived.Lib.Hide
namespace Go.Proofs.YtgnajfdcbpfdjaaDoor
open Go.ChangeShapes Go.WideShapes Go.ChangeAt Go.RowKit Pm

/-- The two errors of the library's: the variables hold pointers. -/
def rangeName : String := "strconv.ErrRange"
def synName : String := "strconv.ErrSyntax"
def ErrsAt (w : World) : Prop := (∃ tp p, w.var? Tryd.prog rangeName = some #[.iface tp p]) ∧ ∃ tp p, w.var? Tryd.prog synName = some #[.iface tp p]

theorem var_below {P : Program} {w w' : World} {n : String} {cs : Array Value} (h : w.var? P n = some cs) (hb : Below w.heap.size w w') : w'.var? P n = some cs := by
  unfold World.var? at h ⊢
  cases hg : P.globalNamed n with
  | none => simp [hg] at h
  | some g =>
    simp only [hg, Option.bind_some] at h ⊢
    have hlt : g < w.heap.size := by
      rcases Nat.lt_or_ge g w.heap.size with h' | h'
      · exact h'
      · rw [Array.getElem?_eq_none h'] at h; simp at h
    rw [hb.block g hlt]
    exact h

theorem ErrsAt.below {w w' : World} (h : ErrsAt w) (hb : Below w.heap.size w w') : ErrsAt w' := by
  obtain ⟨⟨tp, p, h1⟩, tq, q, h2⟩ := h
  exact ⟨⟨tp, p, var_below h1 hb⟩, tq, q, var_below h2 hb⟩

/-- How the library's reading ends. -/
def ParseRet (s : ByteArray) (w : World) (e : Ending) (w' : World) : Prop :=
  (∃ v, Lib.parseIntB 64 s.data.toList = .ok v ∧ e = .returned (.tuple #[.int .i64 v, .nilIface]) ∧ Below w.heap.size w w') ∨
  ((∀ v, Lib.parseIntB 64 s.data.toList ≠ .ok v) ∧ ∃ n t a, e = .returned (.tuple #[.int .i64 n, .iface t (.pointer (some a))]) ∧ Below w.heap.size w w')

theorem parse_any (s : ByteArray) (w : World) (hs : s.size ≤ 281474976710656) (hE : ErrsAt w) :
    Calls Tryd.prog 88 #[.string s, .int .i64 10, .int .i64 64] w (ParseRet s w) := by
  obtain ⟨⟨tp, p, h1⟩, tq, q, h2⟩ := hE
  rcases h : Lib.parseIntB 64 s.data.toList with v | _ | _
  · refine (Any.strconv_ParseInt_10_at64_ok Tryd.laysC174 s (by omega) v h w).mono fun e w' ⟨he, hw⟩ => .inl ⟨v, h, he, ?_⟩
    rcases hw with rfl | ⟨t, rfl⟩
    · exact Below.refl _ _
    · exact Lib.bytesWorld_below _ _ _
  · refine (Any.strconv_ParseInt_10_at64_syntax_var Tryd.laysC174 s hs h tq q w h2).mono fun e w' ⟨N, he, _, _, hb⟩ => .inr ⟨fun v hv => (by rw [h] at hv; cases hv), _, _, _, he, hb⟩
  · refine (Any.strconv_ParseInt_10_at64_range_var Tryd.laysC174 s hs h tp p w h1).mono fun e w' ⟨N, he, _, _, hb⟩ => .inr ⟨fun v hv => (by rw [h] at hv; cases hv), _, _, _, he, hb⟩

theorem parse_ok (s : ByteArray) (v : Int) (w : World) (hs : s.size ≤ 281474976710656) (h : Lib.parseIntB 64 s.data.toList = .ok v) :
    Calls Tryd.prog 88 #[.string s, .int .i64 10, .int .i64 64] w fun e w' => e = .returned (.tuple #[.int .i64 v, .nilIface]) ∧ Below w.heap.size w w' := by
  refine (Any.strconv_ParseInt_10_at64_ok Tryd.laysC174 s (by omega) v h w).mono fun e w' ⟨he, hw⟩ => ⟨he, ?_⟩
  rcases hw with rfl | ⟨t, rfl⟩
  · exact Below.refl _ _
  · exact Lib.bytesWorld_below _ _ _

def NoParse (w : World) (e : Ending) (w' : World) : Prop := ∃ n t a, e = .returned (.tuple #[.int .i64 n, .iface t (.pointer (some a))]) ∧ Below w.heap.size w w'
theorem parse_no (s : ByteArray) (w : World) (hs : s.size ≤ 281474976710656) (hE : ErrsAt w) (h : ∀ v, Lib.parseIntB 64 s.data.toList ≠ .ok v) :
    Calls Tryd.prog 88 #[.string s, .int .i64 10, .int .i64 64] w (NoParse w) :=
  (parse_any s w hs hE).mono fun e w' hr => by
    rcases hr with ⟨v, hv, _⟩ | ⟨_, hr⟩
    · exact absurd hv (h v)
    · exact hr






theorem star : "*" ++ "errors.errorString" = "*errors.errorString" := by decide
/-- The one type of that name. -/
theorem rowPtr (u : TypeId) (h : Tryd.prog.typeName? 3 u = some "*errors.errorString") : u = 162 :=
  typeName_ptr_named (nm := "errors.errorString") (by rw [star]; kernel_rfl) (by kernel_rfl) (by decide) u (by rw [star]; exact h)

theorem range_of {W : World} {r : List (String × DataW Unit)} (h : laidMet Tryd.prog ((rangeName, Rows.laid_strconv_ErrRange) :: r) W) : ∃ tp p, W.var? Tryd.prog rangeName = some #[.iface tp p] := by
  obtain ⟨a0, s0, hv0, _⟩ := laid_sentinel (g := 5) (ti := 91) (te := 164) (ts := 9) h (by kernel_rfl) (by kernel_rfl) Tryd.underlying91 rowPtr Tryd.underlying162 Tryd.underlying164 rfl rfl Tryd.underlying9 (by kernel_rfl) (by kernel_rfl)
  exact ⟨_, _, hv0⟩
theorem syn_of {W : World} {r : List (String × DataW Unit)} (h : laidMet Tryd.prog ((synName, Rows.laid_strconv_ErrSyntax) :: r) W) : ∃ tp p, W.var? Tryd.prog synName = some #[.iface tp p] := by
  obtain ⟨a0, s0, hv0, _⟩ := laid_sentinel (g := 4) (ti := 91) (te := 164) (ts := 9) h (by kernel_rfl) (by kernel_rfl) Tryd.underlying91 rowPtr Tryd.underlying162 Tryd.underlying164 rfl rfl Tryd.underlying9 (by kernel_rfl) (by kernel_rfl)
  exact ⟨_, _, hv0⟩

end Go.Proofs.YtgnajfdcbpfdjaaDoor
