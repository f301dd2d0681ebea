/- A valid danger: pure, the program's test, the model's. -/
import Derived.Test.YthccbipjmheoaaaDoorDgr
import Derived.Test.YthccbipjmheoaaaDoorNam2
import Derived.Test.YthccbipjmheoaaaDoorAre
import Derived.Test.YthccbipjmheoaaaDoorWithin
namespace Go.Proofs.YthccbipjmheoaaaDoor
open Go.ChangeShapes Go.WideShapes Go.ChangeAt Go.RowKit Pm

/-- Is a danger valid? -/
def okD (q : Dg) : Bool := nameB q.1.data.toList && (inB 0 200000 [q.2.1, q.2.2.1] && inB 1 20000 [q.2.2.2])
/-- A danger in memory. -/
def DgAt (w : World) (b o : Nat) (q : Dg) : Prop := w.cell? ⟨b, o, none⟩ = some (.string q.1) ∧ w.cell? ⟨b, o + 1, none⟩ = some (.int .i64 q.2.1) ∧ w.cell? ⟨b, o + 2, none⟩ = some (.int .i64 q.2.2.1) ∧ w.cell? ⟨b, o + 3, none⟩ = some (.int .i64 q.2.2.2)
theorem DgAt.below {w w' : World} {b o : Nat} {q : Dg} (h : DgAt w b o q) (hb : Below w.heap.size w w') : DgAt w' b o q := ⟨cell_below h.1 hb, cell_below h.2.1 hb, cell_below h.2.2.1 hb, cell_below h.2.2.2 hb⟩
theorem DgAt.new {w : World} {T : TypeId} (q : Dg) (n : Nat) (hn : w.heap.size = n) : DgAt (w.alloc (.cells #[.string q.1, .int .i64 q.2.1, .int .i64 q.2.2.1, .int .i64 q.2.2.2] T)) n 0 q := by
  subst hn
  refine ⟨?_, ?_, ?_, ?_⟩ <;> simp
theorem okD_parts {q : Dg} (h : okD q = true) : q.1.size ≤ 10 ∧ 0 < q.1.size ∧ okB (q.2.1, q.2.2.1) = true ∧ 1 ≤ q.2.2.2 ∧ q.2.2.2 ≤ 20000 := by
  simp only [okD, Bool.and_eq_true] at h
  obtain ⟨h1, h2, h3⟩ := h
  have a3 : 1 ≤ q.2.2.2 ∧ q.2.2.2 ≤ 20000 := by simpa [inB] using h3
  refine ⟨?_, ?_, h2, a3.1, a3.2⟩
  · rcases Nat.lt_or_ge 10 q.1.size with c | c
    · rw [nameB_long c] at h1; cases h1
    · exact c
  · rcases Nat.eq_zero_or_pos q.1.size with c | c
    · rw [nameB_none c] at h1; cases h1
    · exact c
set_option maxRecDepth 100000 in
set_option maxHeartbeats 1000000 in
theorem validdg_any (s : ByteArray) (x y z : Int) (w : World) (hs : s.size ≤ maxLen) :
    Calls Tryd.prog 21 #[.agg #[.string s, .int .i64 x, .int .i64 y, .int .i64 z]] w fun e w' => e = .returned (.bool (okD (s, x, y, z))) ∧ Below w.heap.size w w' := by
  have HI := Lib.hid (fun w' => isname_any s w' hs)
  have HO := Lib.hid (fun w' => ok_any x y w')
  have HZ := Lib.hid (fun (w' : World) (m : Nat) (hm : w'.heap.size = m) => within_any 1 20000 _ [z] _ (ints_one_at w' z m hm))
  have hV : okD (s, x, y, z) = (nameB s.data.toList && (inB 0 200000 [x, y] && inB 1 20000 [z])) := rfl
  generalize okD (s, x, y, z) = V at *
  generalize nameB s.data.toList = b1 at *
  generalize inB 0 200000 [x, y] = b2 at *
  generalize inB 1 20000 [z] = b3 at *
  have HV := Lib.hid hV
  clear hV
  cases b1
  · go_enter Tryd.func21, Tryd.ntmps21
    go_wp2_with (first
      | (go_at_call 37; (refine (HI.out _).mono ?_); rintro e w1 ⟨rfl, hb⟩; have x1 := cell_below (a := ⟨w.heap.size, 1, none⟩) (v := .int .i64 x) (by go_cell) hb; have x2 := cell_below (a := ⟨w.heap.size, 2, none⟩) (v := .int .i64 y) (by go_cell) hb; have x3 := cell_below (a := ⟨w.heap.size, 3, none⟩) (v := .int .i64 z) (by go_cell) hb; have AC1 := Lib.hid (Below.next (a := w) (by go_grown) hb); clear hb))
    go_ret
    exact ⟨retB HV.out.symm, AC1.out⟩
  cases b2
  · go_enter Tryd.func21, Tryd.ntmps21
    go_wp2_with (first
      | (go_at_call 37; (refine (HI.out _).mono ?_); rintro e w1 ⟨rfl, hb⟩; have x1 := cell_below (a := ⟨w.heap.size, 1, none⟩) (v := .int .i64 x) (by go_cell) hb; have x2 := cell_below (a := ⟨w.heap.size, 2, none⟩) (v := .int .i64 y) (by go_cell) hb; have x3 := cell_below (a := ⟨w.heap.size, 3, none⟩) (v := .int .i64 z) (by go_cell) hb; have AC1 := Lib.hid (Below.next (a := w) (by go_grown) hb); clear hb)
      | (go_at_call 22; (refine (HO.out _).mono ?_); rintro e w2 ⟨rfl, hb⟩; have y3 := cell_below x3 hb; have AC2 := Lib.hid (Below.next AC1.out hb); clear hb))
    go_ret
    exact ⟨retB HV.out.symm, AC2.out⟩
  cases b3
  · go_enter Tryd.func21, Tryd.ntmps21
    go_wp2_with (first
      | (go_at_call 37; (refine (HI.out _).mono ?_); rintro e w1 ⟨rfl, hb⟩; have x1 := cell_below (a := ⟨w.heap.size, 1, none⟩) (v := .int .i64 x) (by go_cell) hb; have x2 := cell_below (a := ⟨w.heap.size, 2, none⟩) (v := .int .i64 y) (by go_cell) hb; have x3 := cell_below (a := ⟨w.heap.size, 3, none⟩) (v := .int .i64 z) (by go_cell) hb; have AC1 := Lib.hid (Below.next (a := w) (by go_grown) hb); clear hb)
      | (go_at_call 22; (refine (HO.out _).mono ?_); rintro e w2 ⟨rfl, hb⟩; have y3 := cell_below x3 hb; have AC2 := Lib.hid (Below.next AC1.out hb); clear hb)
      | (go_at_call 38; (refine (HZ.out _ _ (by simp)).mono ?_); rintro e w3 ⟨rfl, rfl⟩; have AC3 := Lib.hid (AC2.out.alloc AC2.out.size (.cells #[Value.int .i64 z] 2))))
    go_ret
    exact ⟨retB HV.out.symm, AC3.out⟩
  · go_enter Tryd.func21, Tryd.ntmps21
    go_wp2_with (first
      | (go_at_call 37; (refine (HI.out _).mono ?_); rintro e w1 ⟨rfl, hb⟩; have x1 := cell_below (a := ⟨w.heap.size, 1, none⟩) (v := .int .i64 x) (by go_cell) hb; have x2 := cell_below (a := ⟨w.heap.size, 2, none⟩) (v := .int .i64 y) (by go_cell) hb; have x3 := cell_below (a := ⟨w.heap.size, 3, none⟩) (v := .int .i64 z) (by go_cell) hb; have AC1 := Lib.hid (Below.next (a := w) (by go_grown) hb); clear hb)
      | (go_at_call 22; (refine (HO.out _).mono ?_); rintro e w2 ⟨rfl, hb⟩; have y3 := cell_below x3 hb; have AC2 := Lib.hid (Below.next AC1.out hb); clear hb)
      | (go_at_call 38; (refine (HZ.out _ _ (by simp)).mono ?_); rintro e w3 ⟨rfl, rfl⟩; have AC3 := Lib.hid (AC2.out.alloc AC2.out.size (.cells #[Value.int .i64 z] 2))))
    go_ret
    exact ⟨retB HV.out.symm, AC3.out⟩
set_option maxRecDepth 100000 in
set_option maxHeartbeats 1000000 in
theorem sone_any (b o : Nat) (q : Dg) (w : World) (hs : q.1.size ≤ maxLen) (h : DgAt w b o q) :
    Calls Tryd.prog 18 #[.pointer (some ⟨b, o, none⟩)] w fun e w' => e = .returned (.bool (okD q)) ∧ Below w.heap.size w w' := by
  obtain ⟨s, x, y, z⟩ := q
  obtain ⟨h0, h1, h2, h3⟩ := h
  simp only at h0 h1 h2 h3 hs
  have HI := Lib.hid (fun w' => below_eq (sname_any s w' hs))
  have HO := Lib.hid (fun w' => sok_any x y w')
  have HZ := Lib.hid (fun w' => in_any z 1 20000 w')
  have hV : okD (s, x, y, z) = (nameB s.data.toList && (inB 0 200000 [x, y] && inB 1 20000 [z])) := rfl
  generalize okD (s, x, y, z) = V at *
  generalize nameB s.data.toList = b1 at *
  generalize inB 0 200000 [x, y] = b2 at *
  generalize inB 1 20000 [z] = b3 at *
  have HV := Lib.hid hV
  clear hV
  cases b1
  · go_enter Tryd.func18, Tryd.ntmps18
    go_wp2_with (first
      | (go_at_call 34; (refine (HI.out _).mono ?_); rintro e w1 ⟨rfl, hb⟩; have x1 := cell_below h1 hb; have x2 := cell_below h2 hb; have x3 := cell_below h3 hb; have AC1 := Lib.hid (Below.next (a := w) (by go_grown) hb); clear hb))
    go_ret
    exact ⟨retB HV.out.symm, AC1.out⟩
  cases b2
  · go_enter Tryd.func18, Tryd.ntmps18
    go_wp2_with (first
      | (go_at_call 34; (refine (HI.out _).mono ?_); rintro e w1 ⟨rfl, hb⟩; have x1 := cell_below h1 hb; have x2 := cell_below h2 hb; have x3 := cell_below h3 hb; have AC1 := Lib.hid (Below.next (a := w) (by go_grown) hb); clear hb)
      | (go_at_call 19; (refine (HO.out _).mono ?_); rintro e w2 ⟨rfl, hb⟩; have y3 := cell_below x3 hb; have AC2 := Lib.hid (Below.next AC1.out hb); clear hb))
    go_ret
    exact ⟨retB HV.out.symm, AC2.out⟩
  cases b3
  · go_enter Tryd.func18, Tryd.ntmps18
    go_wp2_with (first
      | (go_at_call 34; (refine (HI.out _).mono ?_); rintro e w1 ⟨rfl, hb⟩; have x1 := cell_below h1 hb; have x2 := cell_below h2 hb; have x3 := cell_below h3 hb; have AC1 := Lib.hid (Below.next (a := w) (by go_grown) hb); clear hb)
      | (go_at_call 19; (refine (HO.out _).mono ?_); rintro e w2 ⟨rfl, hb⟩; have y3 := cell_below x3 hb; have AC2 := Lib.hid (Below.next AC1.out hb); clear hb)
      | (go_at_call 25; (refine (HZ.out _).mono ?_); rintro e w3 ⟨rfl, rfl⟩; have AC3 := Lib.hid AC2.out))
    go_ret
    exact ⟨retB HV.out.symm, AC3.out⟩
  · go_enter Tryd.func18, Tryd.ntmps18
    go_wp2_with (first
      | (go_at_call 34; (refine (HI.out _).mono ?_); rintro e w1 ⟨rfl, hb⟩; have x1 := cell_below h1 hb; have x2 := cell_below h2 hb; have x3 := cell_below h3 hb; have AC1 := Lib.hid (Below.next (a := w) (by go_grown) hb); clear hb)
      | (go_at_call 19; (refine (HO.out _).mono ?_); rintro e w2 ⟨rfl, hb⟩; have y3 := cell_below x3 hb; have AC2 := Lib.hid (Below.next AC1.out hb); clear hb)
      | (go_at_call 25; (refine (HZ.out _).mono ?_); rintro e w3 ⟨rfl, rfl⟩; have AC3 := Lib.hid AC2.out))
    go_ret
    exact ⟨retB HV.out.symm, AC3.out⟩
end Go.Proofs.YthccbipjmheoaaaDoor
