/- The law of ReadPoint. -/
import Derived.Test.YtochniaofmeheabDoorRdPtS
namespace Go.Proofs.YtochniaofmeheabDoor
open Go.ChangeShapes Go.WideShapes Go.ChangeAt Go.RowKit Pm

theorem sl02read_any (s : ByteArray) (w : World) (hs : s.size ≤ 1048576) :
    Calls Tryd.prog 15 #[.string s] w fun e w' => e = .returned (.tuple #[.agg #[.int .i64 (rpV (cutS 44 s)).1.1, .int .i64 (rpV (cutS 44 s)).1.2], .bool (rpV (cutS 44 s)).2]) ∧ Below w.heap.size w w' := by
  have hI := ssplit_any s 44 (w.alloc (.cells #[.int .i64 0, .int .i64 0] 25)) hs
  by_cases hl : (cutS 44 s).length = 2
  · obtain ⟨p, q, hpq⟩ := two_of _ hl
    have hp : p.size ≤ maxLen := by have := cutS_part 44 s p (by rw [hpq]; simp); unfold maxLen; omega
    have hq : q.size ≤ maxLen := by have := cutS_part 44 s q (by rw [hpq]; simp); unfold maxLen; omega
    rw [hpq] at hI ⊢
    cases k1 : canS p
    · exact sread_two0 s p q w hp hq k1 hI
    · cases k2 : canS q
      · exact sread_two1 s p q w hp hq k1 k2 hI
      · cases k3 : inB 0 200000 [numP p, numP q]
        · exact sread_two2 s p q w hp hq k1 k2 k3 hI
        · exact sread_two3 s p q w hp hq k1 k2 k3 hI
  · exact sread_len s _ w hl hI

theorem readpoint_any (s : ByteArray) (w : World) (hs : s.size ≤ 1048576) (hL : LenAt w) (hP : PowAt w) (hE : ErrsAt w) :
    Calls Tryd.prog 9 #[.string s] w fun e w' => e = .returned (.tuple #[.agg #[.int .i64 (rpV (cutS 44 s)).1.1, .int .i64 (rpV (cutS 44 s)).1.2], .bool (rpV (cutS 44 s)).2]) ∧ Below w.heap.size w w' := by
  have hb : Below w.heap.size w (w.alloc (.cells #[.int .i64 0, .int .i64 0] 25)) := by go_grown
  have hI := readlist_any s (w.alloc (.cells #[.int .i64 0, .int .i64 0] 25)) hs (hL.below hb) (hP.below hb) (hE.below hb)
  rw [← rz_rp]
  have hI2 : Calls Tryd.prog 16 #[.string s] (w.alloc (.cells #[.int .i64 0, .int .i64 0] 25)) (RL (rlZ s) (rlB s) (w.alloc (.cells #[.int .i64 0, .int .i64 0] 25))) := hI
  generalize rlZ s = zs at *
  generalize rlB s = b at *
  cases b
  · exact readpoint_false s zs w hI2
  · by_cases hl : zs.length = 2
    · obtain ⟨x, y, rfl⟩ := two_of _ hl
      cases h : inB 0 200000 [x, y]
      · exact readpoint_two0 s x y w h hI2
      · exact readpoint_two1 s x y w h hI2
    · exact readpoint_len s zs w hl hI2

theorem sreadpoint_any (s : ByteArray) (w : World) (hs : s.size ≤ 1048576) :
    Calls Tryd.prog 8 #[.string s] w fun e w' => e = .returned (.tuple #[.agg #[.int .i64 (rpV (cutS 44 s)).1.1, .int .i64 (rpV (cutS 44 s)).1.2], .bool (rpV (cutS 44 s)).2]) ∧ Below w.heap.size w w' := by
  have HC := Lib.hid (fun w => sl02read_any s w hs)
  clear hs
  generalize rpV (cutS 44 s) = R at *
  go_enter Tryd.func8, Tryd.ntmps8
  go_wp2_with (go_at_call 15; refine (HC.out _).mono ?_; rintro e w1 ⟨rfl, hb⟩; have ac := Below.next (a := w) (by go_grown) hb; have c0 := cell_below (a := ⟨w.heap.size, 0, none⟩) (v := .int .i64 0) (by go_cell) hb; have c1 := cell_below (a := ⟨w.heap.size, 1, none⟩) (v := .int .i64 0) (by go_cell) hb; have f0 := frozen_below (a := ⟨w.heap.size, 0, none⟩) (by go_simp) (by simp) hb; have f1 := frozen_below (a := ⟨w.heap.size, 1, none⟩) (by go_simp) (by simp) hb)
  refine bodyPost_ret (v := .tuple #[.agg #[.int .i64 R.1.1, .int .i64 R.1.2], .bool R.2]) (by simp [results, Tryd.results8, go_sem, *]) rfl ⟨rfl, by go_grown⟩

set_option maxHeartbeats 1000000 in
theorem readpoint_law (s : ByteArray) (w0 : s.size ≤ maxLen) (w : World) (hL : laidMetH Tryd.prog Rows.fnExactReadPointRow.laid w) (hsh : w.ShapedOpen Tryd.prog) :
    Calls Tryd.prog 4 #[.string s] w fun e w' => e = .returned (.bool true) ∧ Below w.heap.size w w' := by
  rw [MakeChecks.laidMetH_plain _ _ _ (by kernel_rfl)] at hL
  have HP := Lib.hid (pow_of hL)
  have HE := Lib.hid (show ErrsAt w from ⟨range_of hL.tail.tail.tail.tail, syn_of hL.tail.tail.tail.tail.tail⟩)
  have HN := Lib.hid (len_of hsh)
  clear hL hsh
  unfold maxLen at w0
  by_cases hl : s.size ≤ 1048576
  · have H1 := Lib.hid (fun w => sreadpoint_any s w hl)
    have H2 := Lib.hid (fun w => readpoint_any s w hl)
    have hl2 : ¬ (1048576 : Int) < (s.size : Int) := by omega
    clear w0 hl
    generalize rpV (cutS 44 s) = R at *
    obtain ⟨⟨X, Y⟩, B⟩ := R
    dsimp only at H1 H2
    go_enter Tryd.func4, Tryd.ntmps4
    go_wp2_with (first
      | (go_at_call 8; refine (H1.out _).mono ?_; rintro e w1 ⟨rfl, hb⟩; have ac := Below.next (a := w) (by go_grown) hb; have az := ac.size; clear hb)
      | (go_at_call 9; refine (H2.out _ (HN.out.below (by go_grown)) (HP.out.below (by go_grown)) (HE.out.below (by go_grown))).mono ?_; rintro e w2 ⟨rfl, hb⟩; have ac2 := Below.next (a := w) (by go_grown) hb; have az2 := ac2.size; have sz := hb.size; (try simp at sz); (first | (have hq := new2 hb; obtain ⟨q0, q1, q2, q3, q4⟩ := hq) | (have hq := new2d hb; obtain ⟨q0, q1, q2, q3, q4⟩ := hq) | (have hq := carry2 hb q0 q1 q2 q3 q4; obtain ⟨q0, q1, q2, q3, q4⟩ := hq) | skip); (try simp only [World.size_alloc] at q0 q1 q2 q3 q4); clear hb)
      | (go_at_call 10; refine (eqpt_any _ _ _).mono ?_; rintro e w3 ⟨rfl, hb⟩; have ac3 := Below.next (a := w) (by go_grown) hb; clear hb))
    go_ret
    exact ⟨rfl, by go_grown⟩
  · have hl2 : (1048576 : Int) < (s.size : Int) := by omega
    clear hl
    go_enter Tryd.func4, Tryd.ntmps4
    go_wp2
    go_ret
    exact ⟨rfl, Below.refl _ _⟩
end Go.Proofs.YtochniaofmeheabDoor
