/- Marks as arguments of a law: opened, shut, measured, made the program's. -/
import Derived.Test.YthheacebafleeaaDoorMrkE
import Derived.Test.YthheacebafleeaaDoorClx
import Derived.Lib.SmallJoins
namespace Go.Proofs.YthheacebafleeaaDoor
open Go.ChangeShapes Go.WideShapes Go.ChangeAt Go.RowKit Go.Joins Pm

set_option maxRecDepth 100000 in
theorem Tryd.cellsMark : Tryd.prog.cellsOf 32 = 4 := by kernel_rfl
set_option maxRecDepth 100000 in
theorem open_mark {H : Type} {enc : TypeId × Value → H} {w : World} {base : Nat} {spare : Nat → Bool} {held : Bool} {r : Reach} {b0 : Nat} {v : Value} {d : DataW H} {p : List MemPlace}
    (hv : Value.okWide Tryd.prog w r b0 32 v) (h : DataW.Trod enc Tryd.prog w base spare held 32 v d p) :
    ∃ (k : Int) (c s t : ByteArray), v = .agg #[.int .i64 k, .string c, .string s, .string t] ∧ d = .agg [.lit (.int .i64 k), .lit (.string c.data.toList), .lit (.string s.data.toList), .lit (.string t.data.toList)] ∧ p = [] ∧
      (Lit.int .i64 k).wf = true ∧ c.size ≤ maxLen ∧ s.size ≤ maxLen ∧ t.size ≤ maxLen := by
  obtain ⟨c0, c1, c2, c3, y0, y1, y2, y3, m, rfl, rfl, rfl, hy0, hy1, hy2, hy3⟩ := open_agg4 Tryd.underlying32 (by kernel_rfl) Tryd.cellsMark hv h
  obtain ⟨a, e0, rfl, wa⟩ := DataW.trod_int Tryd.underlying2 hy0
  obtain ⟨b, e1, rfl, wb⟩ := DataW.trod_string Tryd.underlying9 hy1
  obtain ⟨c, e2, rfl, wc⟩ := DataW.trod_string Tryd.underlying9 hy2
  obtain ⟨f, e3, rfl, wf⟩ := DataW.trod_string Tryd.underlying9 hy3
  simp at e0 e1 e2 e3
  subst e0 e1 e2 e3
  exact ⟨a, b, c, f, rfl, rfl, rfl, wa, wb, wc, wf⟩
set_option maxRecDepth 100000 in
theorem shut_mark {H : Type} {enc : TypeId × Value → H} {w : World} {base : Nat} {spare : Nat → Bool} {held : Bool} {k : Int} {c s t : ByteArray} (wa : (Lit.int .i64 k).wf = true) (wb : c.size ≤ maxLen) (wc : s.size ≤ maxLen) (we : t.size ≤ maxLen) :
    DataW.Trod enc Tryd.prog w base spare held 32 (.agg #[.int .i64 k, .string c, .string s, .string t]) (.agg [.lit (.int .i64 k), .lit (.string c.data.toList), .lit (.string s.data.toList), .lit (.string t.data.toList)]) [] :=
  shut_agg4 (y0 := (.lit (.int .i64 k), [])) (y1 := (.lit (.string c.data.toList), [])) (y2 := (.lit (.string s.data.toList), [])) (y3 := (.lit (.string t.data.toList), [])) Tryd.underlying32 (by kernel_rfl) Tryd.cellsMark
    ⟨1, by simp [DataW.trod, Tryd.underlying2, wa]⟩ ⟨1, by simp [DataW.trod, Tryd.underlying9, wb]⟩ ⟨1, by simp [DataW.trod, Tryd.underlying9, wc]⟩ ⟨1, by simp [DataW.trod, Tryd.underlying9, we]⟩
set_option maxRecDepth 100000 in
theorem tomark_any (k : Int) (c s t : ByteArray) (w : World) :
    Calls Tryd.prog 20 #[.agg #[.int .i64 k, .string c, .string s, .string t]] w fun e w' => e = .returned (.agg #[.int .i64 k, .string c, .string s, .string t]) ∧ Below w.heap.size w w' := by
  go_enter Tryd.func20, Tryd.ntmps20
  go_wp2
  go_returns
  exact ⟨rfl, by go_grown⟩
/-- What is left of some signs behind a mark. -/
def szM (l : Int) (c s t : ByteArray) : Int := if (c.size : Int) + s.size + t.size ≤ l then l - c.size - s.size - t.size else -1
set_option maxRecDepth 100000 in
theorem szmark_any (l k : Int) (c s t : ByteArray) (w : World) (h0 : 0 ≤ l) (h1 : l ≤ 1048576) (hc : c.size ≤ maxLen) (hs : s.size ≤ maxLen) (ht : t.size ≤ maxLen) :
    Calls Tryd.prog 18 #[.agg #[.int .i64 k, .string c, .string s, .string t], .int .i64 l] w fun e w' => e = .returned (.int .i64 (szM l c s t)) ∧ Below w.heap.size w w' := by
  unfold maxLen at hc hs ht
  have e1 : IntKind.i64.wrap (l - (c.size : Int)) = l - c.size := IntWalk.i64_in _ ⟨by omega, by omega⟩
  by_cases p1 : l - (c.size : Int) < 0
  · have hz : szM l c s t = -1 := by unfold szM; rw [if_neg (by omega)]
    rw [hz]
    clear hz hc hs ht h0 h1
    go_enter Tryd.func18, Tryd.ntmps18
    go_wp2
    go_ret
    exact ⟨rfl, by go_grown⟩
  have e2 : IntKind.i64.wrap (l - (c.size : Int) - (s.size : Int)) = l - c.size - s.size := IntWalk.i64_in _ ⟨by omega, by omega⟩
  by_cases p2 : l - (c.size : Int) - (s.size : Int) < 0
  · have hz : szM l c s t = -1 := by unfold szM; rw [if_neg (by omega)]
    rw [hz]
    clear hz hc hs ht h0 h1
    go_enter Tryd.func18, Tryd.ntmps18
    go_wp2
    go_ret
    exact ⟨rfl, by go_grown⟩
  have e3 : IntKind.i64.wrap (l - (c.size : Int) - (s.size : Int) - (t.size : Int)) = l - c.size - s.size - t.size := IntWalk.i64_in _ ⟨by omega, by omega⟩
  by_cases p3 : l - (c.size : Int) - (s.size : Int) - (t.size : Int) < 0
  · have hz : szM l c s t = -1 := by unfold szM; rw [if_neg (by omega)]
    rw [hz]
    clear hz hc hs ht h0 h1
    go_enter Tryd.func18, Tryd.ntmps18
    go_wp2
    go_ret
    exact ⟨rfl, by go_grown⟩
  · have hz : szM l c s t = l - c.size - s.size - t.size := by unfold szM; rw [if_pos (by omega)]
    rw [hz]
    clear hz hc hs ht h0 h1
    go_enter Tryd.func18, Tryd.ntmps18
    go_wp2
    go_ret
    exact ⟨rfl, by go_grown⟩
set_option maxRecDepth 100000 in
theorem eqmark_same (k : Int) (c s t : ByteArray) (w : World) :
    Calls Tryd.prog 17 #[.agg #[.int .i64 k, .string c, .string s, .string t], .agg #[.int .i64 k, .string c, .string s, .string t]] w fun e w' => e = .returned (.bool true) ∧ Below w.heap.size w w' := by
  go_enter Tryd.func17, Tryd.ntmps17
  go_wp2
  go_ret
  exact ⟨rfl, by go_grown⟩
/-- A number of variables, opened. -/
theorem vars_length {H : Type} {enc : TypeId × Value → H} {P : Program} {w : World} {spare : Nat → Bool} : ∀ {ns : List String} {gs : List (DataW H)} {ps : List MemPlace}, DataW.TrodVars enc P w spare ns gs ps → gs.length = ns.length
  | [], [], _, _ => rfl
  | [], _ :: _, _, h => h.elim
  | _ :: _, [], _, h => h.elim
  | _ :: _, _ :: _, _, h => by
    obtain ⟨_, _, _, _, _, _, _, _, _, _, hs, _⟩ := h
    simp [vars_length hs]
end Go.Proofs.YthheacebafleeaaDoor
