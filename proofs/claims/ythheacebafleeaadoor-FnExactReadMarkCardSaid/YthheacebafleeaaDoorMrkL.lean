/- Reading marks: the program's. -/
import Derived.Test.YthheacebafleeaaDoorMrkZ
import Derived.Test.YthheacebafleeaaDoorMrkX
import Derived.Test.YthheacebafleeaaDoorSpb
namespace Go.Proofs.YthheacebafleeaaDoor
open Go.ChangeShapes Go.WideShapes Go.ChangeAt Go.RowKit Pm

set_option maxRecDepth 100000 in
set_option maxHeartbeats 1000000 in
theorem readlook_no (a : Option Addr) (n cap : Nat) (w : World) (hn : n ≠ 4) :
    Calls Tryd.prog 52 #[.slice a n cap] w fun e w' => e = .returned mk0.val ∧ Below w.heap.size w w' := by
  have hn4 : ((n : Int) == 4) = false := beq_eq_false_iff_ne.2 (by omega)
  have hn5 : ((n : Int) != 4) = true := by rw [bne, hn4]; rfl
  clear hn
  go_enter Tryd.func52, Tryd.ntmps52
  go_wp2
  refine bodyPost_ret (v := .agg #[.int .i64 0, .string ⟨#[]⟩, .string ⟨#[]⟩, .string ⟨#[]⟩]) (by simp [results, Tryd.results52, go_sem, *]) rfl ⟨rfl, ?_⟩
  go_grown
set_option maxRecDepth 100000 in
set_option maxHeartbeats 4000000 in
theorem readlook_yes (g cap : Nat) (p0 p1 p2 p3 : ByteArray) (v : Int) (w : World) (hM : MarksAt w) (hs : p0.size ≤ maxLen) (hv : NamedIs p0 v)
    (e0 : w.cell? ⟨g, 0, none⟩ = some (.string p0)) (e1 : w.cell? ⟨g, 1, none⟩ = some (.string p1)) (e2 : w.cell? ⟨g, 2, none⟩ = some (.string p2)) (e3 : w.cell? ⟨g, 3, none⟩ = some (.string p3)) :
    Calls Tryd.prog 52 #[.slice (some ⟨g, 0, none⟩) 4 cap] w fun e w' => e = .returned (.agg #[.int .i64 (nmA v), .string p1, .string p2, .string (dashT p3)]) ∧ Below w.heap.size w w' := by
  have HN := Lib.hid (fun w' (hb : Below w.heap.size w w') => marknamed_any p0 v w' (hM.below hb) hs hv)
  have hg : g < w.heap.size := by
    rcases Nat.lt_or_ge g w.heap.size with h' | h'
    · exact h'
    · simp [World.cell?, Array.getElem?_eq_none h'] at e0
  have hD : ((p3.toList == [45]) = true → dashT p3 = ⟨#[]⟩) ∧ ((p3.toList == [45]) = false → dashT p3 = p3) := ⟨fun h => by unfold dashT; rw [if_pos h], fun h => by unfold dashT; rw [if_neg (by rw [h]; decide)]⟩
  generalize nmA v = k at *
  generalize nmB v = b at *
  clear hM hs hv
  cases ht : (p3.toList == ([45] : List UInt8))
  case' false => rw [hD.2 ht]
  case' true => rw [hD.1 ht]
  all_goals
    clear hD
    go_enter Tryd.func52, Tryd.ntmps52
    go_wp2
    go_region
    go_wp2_with (go_at_call 14; (refine (HN.out _ (by go_grown)).mono ?_); rintro e w1 ⟨rfl, hb⟩; refine Hid.out ?_)
    refine Lib.hid ?_
    have d0 : w1.cell? ⟨w.heap.size, 0, none⟩ = some (.int .i64 0) := cell_below (by simp) hb
    have d1 : w1.cell? ⟨w.heap.size, 1, none⟩ = some (.string ⟨#[]⟩) := cell_below (by simp) hb
    have d2 : w1.cell? ⟨w.heap.size, 2, none⟩ = some (.string ⟨#[]⟩) := cell_below (by simp) hb
    have d3 : w1.cell? ⟨w.heap.size, 3, none⟩ = some (.string ⟨#[]⟩) := cell_below (by simp) hb
    have m0 : w1.cell? ⟨w.heap.size + 1, 0, none⟩ = some (.int .i64 0) := cell_below (by simp) hb
    have m1 : w1.cell? ⟨w.heap.size + 1, 1, none⟩ = some (.string p1) := cell_below (by simp) hb
    have m2 : w1.cell? ⟨w.heap.size + 1, 2, none⟩ = some (.string p2) := cell_below (by simp) hb
    have m3 : w1.cell? ⟨w.heap.size + 1, 3, none⟩ = some (.string p3) := cell_below (by simp) hb
    have g0 : w1.frozen? ⟨w.heap.size, 0, none⟩ = false := zfrozen_below (by simp) (by first | (simp; done) | (simp; omega)) hb
    have g1 : w1.frozen? ⟨w.heap.size, 1, none⟩ = false := zfrozen_below (by simp) (by first | (simp; done) | (simp; omega)) hb
    have g2 : w1.frozen? ⟨w.heap.size, 2, none⟩ = false := zfrozen_below (by simp) (by first | (simp; done) | (simp; omega)) hb
    have g3 : w1.frozen? ⟨w.heap.size, 3, none⟩ = false := zfrozen_below (by simp) (by first | (simp; done) | (simp; omega)) hb
    have f0 : w1.frozen? ⟨w.heap.size + 1, 0, none⟩ = false := zfrozen_below (by simp) (by first | (simp; done) | (simp; omega)) hb
    have f3 : w1.frozen? ⟨w.heap.size + 1, 3, none⟩ = false := zfrozen_below (by simp) (by first | (simp; done) | (simp; omega)) hb
    have AC := Lib.hid (Below.next (a := w) (by go_grown) hb)
    clear hb e0 e1 e2 e3
    go_wp2
    refine bodyPost_ret (v := .agg #[.int .i64 k, .string p1, .string p2, .string _]) (by simp [results, Tryd.results52, go_sem, *]) rfl ⟨rfl, ?_⟩
    repeat (refine Below.setCell ?_ (by first | exact Nat.le_refl _ | exact Nat.le_succ _) _)
    exact AC.out
end Go.Proofs.YthheacebafleeaaDoor
