/- The program's test that all of some points are valid. -/
import Derived.Test.YthccbipjmheoaaaDoorOk
import Derived.LoopTactic
namespace Go.Proofs.YthccbipjmheoaaaDoor
open Go.ChangeShapes Go.WideShapes Go.ChangeAt Go.RowKit Pm

/-- Is a point valid? -/
def okB (p : Int × Int) : Bool := inB 0 200000 [p.1, p.2]

/-- A slice that reads as the points ps: nil, or a row of cells. -/
def PtsAre (w : World) (sv : Value) (ps : List (Int × Int)) : Prop :=
  (sv = .slice none 0 0 ∧ ps = []) ∨
  ∃ b off cap, sv = .slice (some ⟨b, off, none⟩) ps.length cap ∧ ps.length ≤ 9223372036854775807 ∧ ∀ i, i < ps.length →
    w.cell? ⟨b, off + i * 2, none⟩ = some (.int .i64 (ps.getD i (0, 0)).1) ∧ w.cell? ⟨b, off + i * 2 + 1, none⟩ = some (.int .i64 (ps.getD i (0, 0)).2)

theorem PtsAre.below {w w' : World} {sv : Value} {ps : List (Int × Int)} (h : PtsAre w sv ps) (hb : Below w.heap.size w w') : PtsAre w' sv ps := by
  rcases h with h | ⟨b, off, cap, h1, h2, h3⟩
  · exact .inl h
  · exact .inr ⟨b, off, cap, h1, h2, fun i hi => ⟨cell_below (h3 i hi).1 hb, cell_below (h3 i hi).2 hb⟩⟩

/-- The place of the first point that is not valid; -1 if there is none. -/
def badAt (ps : List (Int × Int)) (r : Int) : Prop := (r = -1 ∧ ps.all okB = true) ∨ ∃ k : Nat, r = k ∧ k < ps.length ∧ ps.all okB = false

theorem all_upto (ps : List (Int × Int)) (k : Nat) (h : ∀ i, i < k → okB (ps.getD i (0, 0)) = true) (hk : ps.length ≤ k) : ps.all okB = true := by
  rw [List.all_eq_true]
  intro p hp
  obtain ⟨i, hi, rfl⟩ := List.getElem_of_mem hp
  have := h i (by omega)
  simpa [hi] using this
theorem all_bad (ps : List (Int × Int)) (k : Nat) (hk : k < ps.length) (h : okB (ps.getD k (0, 0)) = false) : ps.all okB = false := by
  rw [← Bool.not_eq_true, List.all_eq_true]
  intro hall
  have := hall _ (List.getElem_mem hk)
  simp [hk] at h
  rw [h] at this
  exact absurd this (by simp)

theorem are1_any (x y : Int) (w : World) :
    Calls Tryd.prog 65 #[.agg #[.int .i64 x, .int .i64 y]] w fun e w' => e = .returned (.bool (!inB 0 200000 [x, y])) ∧ Below w.heap.size w w' := by
  go_enter Tryd.func65, Tryd.ntmps65
  go_wp2_with (go_at_call 22; refine (ok_any _ _ _).mono ?_; rintro e w1 ⟨rfl, hb⟩; have ac := Below.next (a := w) (by go_grown) hb; clear hb)
  go_ret
  exact ⟨rfl, by go_grown⟩

theorem index_any (sv : Value) (ps : List (Int × Int)) (w : World) (hs : PtsAre w sv ps) :
    Calls Tryd.prog 76 #[sv, .func (.func 65) #[] #[]] w fun e w' => ∃ r, badAt ps r ∧ e = .returned (.int .i64 r) ∧ Below w.heap.size w w' := by
  rcases hs with ⟨rfl, rfl⟩ | ⟨b, off, cap, rfl, hm, hc⟩
  · go_enter Tryd.func76, Tryd.ntmps76
    go_wp2
    go_rounds 1
    go_ret
    exact ⟨-1, .inl ⟨rfl, rfl⟩, rfl, Below.refl _ _⟩
  · have HC := Lib.hid hc; clear hc
    go_enter Tryd.func76, Tryd.ntmps76
    go_wp2_with (fail)
    go_loopw [8] (fun i wr => ∃ k : Nat, k ≤ ps.length ∧ i = .int .i64 k ∧ (∀ j, j < k → okB (ps.getD j (0, 0)) = true) ∧ Below w.heap.size w wr) (fun i _ => ps.length - (intOf i).toNat)
    case atStart => exact ⟨0, Nat.zero_le _, rfl, fun j hj => by omega, Below.refl _ _⟩
    case round =>
      obtain ⟨k, hk, rfl, hall, hbel⟩ := hrel
      have HALL := Lib.hid hall
      have HB := Lib.hid hbel
      clear hall
      by_cases hlt : k < ps.length
      · have c0 := cell_below (HC.out k hlt).1 hbel
        have c1 := cell_below (HC.out k hlt).2 hbel
        obtain ⟨x, hx⟩ : ∃ x, (ps.getD k (0, 0)).1 = x := ⟨_, rfl⟩
        obtain ⟨y, hy⟩ : ∃ y, (ps.getD k (0, 0)).2 = y := ⟨_, rfl⟩
        rw [hx] at c0
        rw [hy] at c1
        have hok : Hid (okB (ps.getD k (0, 0)) = inB 0 200000 [x, y]) := Lib.hid (by unfold okB; rw [hx, hy])
        clear hx hy hbel
        by_cases hin : inB 0 200000 [x, y] = true
        · go_wp2_with (go_at_call 65; refine (are1_any _ _ _).mono ?_; rintro e w1 ⟨rfl, hb⟩; have ac := HB.out.trans (hb.mono HB.out.size); clear hb)
          go_roundw
          case rel => exact ⟨k + 1, by omega, by go_num, fun j hj => by
            by_cases h : j < k
            · exact HALL.out j h
            · obtain rfl : j = k := by omega
              rw [hok.out]; exact hin, by assumption⟩
          case measure => simp [intOf]; omega
        · have hin2 : inB 0 200000 [x, y] = false := by simpa using hin
          go_wp2_with (go_at_call 65; refine (are1_any _ _ _).mono ?_; rintro e w1 ⟨rfl, hb⟩; have ac := HB.out.trans (hb.mono HB.out.size); clear hb)
          go_ret
          exact ⟨k, .inr ⟨k, rfl, hlt, all_bad ps k hlt (hok.out.trans hin2)⟩, rfl, by assumption⟩
      · clear hbel
        go_wp2
        go_ret
        exact ⟨-1, .inl ⟨rfl, all_upto ps k HALL.out (by omega)⟩, rfl, HB.out⟩

theorem bad_ge {ps : List (Int × Int)} {r : Int} (h : badAt ps r) : (!decide (0 ≤ r)) = ps.all okB ∧ -1 ≤ r := by
  rcases h with ⟨rfl, h⟩ | ⟨k, rfl, _, h⟩
  · rw [h]; exact ⟨by decide, by omega⟩
  · rw [h]; exact ⟨by simp, by omega⟩

theorem arepts_any (sv : Value) (ps : List (Int × Int)) (w : World) (hs : PtsAre w sv ps) :
    Calls Tryd.prog 40 #[sv] w fun e w' => e = .returned (.bool (ps.all okB)) ∧ Below w.heap.size w w' := by
  have HI := Lib.hid (index_any sv ps w hs)
  clear hs
  generalize hA : ps.all okB = A
  have HA := Lib.hid hA; clear hA
  go_enter Tryd.func40, Tryd.ntmps40
  go_wp2_with (first | (go_at_call 64; go_in) | (go_at_call 76; refine HI.out.mono ?_; rintro e w1 ⟨r, hr, rfl, hb⟩))
  go_ret
  exact ⟨congrArg (fun b => Ending.returned (.bool b)) ((bad_ge hr).1.trans HA.out), by go_grown⟩

/-! ### Slices of points in new blocks -/
theorem pts_new (w : World) (ps : List (Int × Int)) (cs : Array Value) (T : TypeId) (cap B : Nat) (hB : w.heap.size = B) (hm : ps.length ≤ 9223372036854775807)
    (hc : ∀ i, i < ps.length → cs[i * 2]? = some (.int .i64 (ps.getD i (0, 0)).1) ∧ cs[i * 2 + 1]? = some (.int .i64 (ps.getD i (0, 0)).2)) :
    PtsAre (w.alloc (.cells cs T)) (.slice (some ⟨B, 0, none⟩) ps.length cap) ps := by
  subst hB
  refine .inr ⟨_, _, _, rfl, hm, fun i hi => ?_⟩
  have h := (MapKept.heap_alloc w (.cells cs T)).1
  simp only [World.cell?, h, Nat.zero_add]
  obtain ⟨h1, h2⟩ := hc i hi
  exact ⟨by simpa using h1, by simpa using h2⟩
theorem pts_two (w : World) (a b c d : Int) (B : Nat) (hB : w.heap.size = B) :
    PtsAre (w.alloc (.cells #[Value.int .i64 a, Value.int .i64 b, Value.int .i64 c, Value.int .i64 d] 29)) (.slice (some ⟨B, 0, none⟩) 2 2) [(a, b), (c, d)] :=
  pts_new w [(a, b), (c, d)] _ _ _ _ hB (by simp) (fun i hi => by
    match i, hi with
    | 0, _ => exact ⟨rfl, rfl⟩
    | 1, _ => exact ⟨rfl, rfl⟩)
theorem pts_three (w : World) (a b c d e f : Int) (B : Nat) (hB : w.heap.size = B) :
    PtsAre (w.alloc (.cells #[Value.int .i64 a, Value.int .i64 b, Value.int .i64 c, Value.int .i64 d, Value.int .i64 e, Value.int .i64 f] 29)) (.slice (some ⟨B, 0, none⟩) 3 3) [(a, b), (c, d), (e, f)] :=
  pts_new w [(a, b), (c, d), (e, f)] _ _ _ _ hB (by simp) (fun i hi => by
    match i, hi with
    | 0, _ => exact ⟨rfl, rfl⟩
    | 1, _ => exact ⟨rfl, rfl⟩
    | 2, _ => exact ⟨rfl, rfl⟩)
theorem pts_one (w : World) (a b : Int) (B : Nat) (hB : w.heap.size = B) :
    PtsAre (w.alloc (.cells #[Value.int .i64 a, Value.int .i64 b] 29)) (.slice (some ⟨B, 0, none⟩) 1 1) [(a, b)] :=
  pts_new w [(a, b)] _ _ _ _ hB (by simp) (fun i hi => by
    match i, hi with
    | 0, _ => exact ⟨rfl, rfl⟩)
end Go.Proofs.YthccbipjmheoaaaDoor
