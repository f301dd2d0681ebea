/- A channel as an argument of a law: opened. -/
import Derived.Test.YthccbipjmheoaaaArgPts
import Derived.Test.YthccbipjmheoaaaChn
import Derived.Lib.SmallJoins
import Derived.ChangeMaps5
import Derived.ProofKit
import Derived.OpenShut
namespace Go.Proofs.Ythccbipjmheoaaa
open Go.ChangeShapes Go.WideShapes Go.ChangeAt Go.RowKit Go.Deep Go.Joins Pm

/-- A channel. -/
structure Chn where
  name : ByteArray
  line : List (Int × Int)
  width : Int
/-- A channel that came in: its line reads as points, nothing is longer than memory allows. -/
structure ArgChn (w : World) (gv : Value) (c : Chn) : Prop where
  row : ∃ a k, gv = .slice a c.line.length k ∧ ArgPts w a c.line.length c.line
  len : c.line.length ≤ maxLen
  nam : c.name.size ≤ maxLen
  wd : -9223372036854775808 ≤ c.width ∧ c.width ≤ 9223372036854775807
set_option maxRecDepth 100000 in
theorem Try.cellsChn : Try.prog.cellsOf 24 = 3 := by kernel_rfl
set_option maxRecDepth 100000 in
theorem arg_chn {H : Type} {enc : TypeId × Value → H} {w : World} {held : Bool} {r : Reach} {b0 : Nat} {v : Value} {d : DataW H} {p : List MemPlace}
    (hv : Value.okWide Try.prog w r b0 24 v) (h : DataW.Trod enc Try.prog w 0 (fun _ => true) held 24 v d p) :
    ∃ (gv : Value) (c : Chn), v = .agg #[.string c.name, gv, .int .i64 c.width] ∧ ArgChn w gv c := by
  obtain ⟨c0, c1, c2, y0, y1, y2, m, rfl, _, _, hy0, hy1, hy2⟩ := open_agg3 Try.underlying24 (by kernel_rfl) Try.cellsChn hv h
  obtain ⟨s, e0, _, ws⟩ := DataW.trod_string Try.underlying9 hy0
  obtain ⟨q, e2, _, wq⟩ := DataW.trod_int Try.underlying2 hy2
  simp only [List.cons.injEq, and_true] at e0 e2
  subst e0 e2
  have bq := bounds_i64 wq
  have key : ∃ a len cap, c1 = .slice a len cap := by
    rcases open_slice Try.underlying22 hy1 with ⟨hcs, _⟩ | ⟨x, l, c, m, n, D, Pl, hcs, _⟩
    · simp only [List.cons.injEq, and_true] at hcs
      exact ⟨_, _, _, hcs⟩
    · simp only [List.cons.injEq, and_true] at hcs
      exact ⟨_, _, _, hcs⟩
  obtain ⟨a, len, cap, rfl⟩ := key
  obtain ⟨ps, hp, hl⟩ := arg_pts (len := len) (cap := cap) (a := a) ⟨m, by simpa [Value.cells] using hy1⟩
  obtain rfl : len = ps.length := hp.1
  exact ⟨_, ⟨s, ps, q⟩, rfl, ⟨_, _, rfl, hp⟩, hl, ws, by simp only; omega⟩
end Go.Proofs.Ythccbipjmheoaaa
