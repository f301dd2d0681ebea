/- ClearanceOf: the program's word whole, the model's. -/
import Derived.Test.YthccbipjmheoaaaClr
namespace Go.Proofs.Ythccbipjmheoaaa
open Go.ChangeShapes Go.WideShapes Go.ChangeAt Go.RowKit Pm

/-- The clearance, and the error. -/
noncomputable def clrA (d : Dg) (ps : Pts) : Int := if (okD d && pathB ps) = true then clrV d ps else 0
def clrE (d : Dg) (ps : Pts) : Int := if (okD d && pathB ps) = true then 0 else 1
theorem clr_no {d : Dg} {ps : Pts} (h : okD d = false) : clrA d ps = 0 ∧ clrE d ps = 1 := by unfold clrA clrE; rw [h]; exact ⟨rfl, rfl⟩
theorem clr_out {d : Dg} {ps : Pts} (h : pathB ps = false) : clrA d ps = 0 ∧ clrE d ps = 1 := by unfold clrA clrE; rw [h]; simp
theorem clr_in {d : Dg} {ps : Pts} (h : okD d = true) (hq : pathB ps = true) : clrA d ps = clrV d ps ∧ clrE d ps = 0 := by unfold clrA clrE; rw [h, hq]; exact ⟨rfl, rfl⟩
set_option maxRecDepth 100000 in
theorem ispath_any (v : Value) (ps : Pts) (w : World) (h : PtsL w v ps) :
    Calls Try.prog 72 #[v] w fun e w' => e = .returned (.bool (pathB ps)) ∧ Below w.heap.size w w' := by
  have HP := Lib.hid h
  have HW := Lib.hid (fun (w' : World) (m : Nat) (hm : w'.heap.size = m) => within_int 1 64 _ [(ps.length : Int)] _ (show IntsAre .i64 (w'.alloc (.cells #[Value.int .i64 (ps.length : Int)] 3)) (.slice (some ⟨m, 0, none⟩) 1 1) [(ps.length : Int)] from hm ▸ ints_one w' .i64 (ps.length : Int) 3))
  have HA := Lib.hid (fun w' (h : PtsL w' v ps) => arepts_any v ps w' h.are)
  obtain ⟨a, c, rfl⟩ := pts_len h
  have hV : pathB ps = (inB 1 64 [(ps.length : Int)] && ps.all okB) := rfl
  generalize pathB ps = V at *
  generalize inB 1 64 [(ps.length : Int)] = b1 at *
  generalize ps.all okB = b2 at *
  have HV := Lib.hid hV
  clear hV h
  cases b1
  · go_enter Try.func72, Try.ntmps72
    go_wp2_with (go_at_call 80; (refine (HW.out _ _ rfl).mono ?_); rintro e w2 ⟨rfl, rfl⟩)
    go_ret
    exact ⟨retB HV.out.symm, by go_grown⟩
  · cases b2
    all_goals
      go_enter Try.func72, Try.ntmps72
      go_wp2_with (first
        | (go_at_call 80; (refine (HW.out _ _ rfl).mono ?_); rintro e w2 ⟨rfl, rfl⟩)
        | (go_at_call 81; (refine (HA.out _ (HP.out.below (by go_grown))).mono ?_); rintro e w3 ⟨rfl, hb⟩; have AC := Lib.hid (Below.next (a := w) (by go_grown) hb); clear hb))
      go_ret
      exact ⟨retB HV.out.symm, AC.out⟩
set_option maxRecDepth 100000 in
theorem spath_any (v : Value) (ps : Pts) (w : World) (hl : ps.length ≤ 1048576) (h : PtsL w v ps) :
    Calls Try.prog 70 #[v] w fun e w' => e = .returned (.bool (pathB ps)) ∧ Below w.heap.size w w' := by
  have HP := Lib.hid h
  have HA := Lib.hid (fun w' (h : PtsL w' v ps) => sall_any v ps w' h.are)
  obtain ⟨a, c, rfl⟩ := pts_len h
  have hV : pathB ps = (inB 1 64 [(ps.length : Int)] && ps.all okB) := rfl
  generalize pathB ps = V at *
  generalize ps.all okB = b2 at *
  by_cases h1 : 1 ≤ (ps.length : Int)
  · by_cases h2 : (ps.length : Int) ≤ 64
    · have HV := Lib.hid (show V = b2 by rw [hV]; simp [inB, h1, h2])
      clear hV h
      cases b2
      all_goals
        go_enter Try.func70, Try.ntmps70
        go_wp2_with (go_at_call 100; (refine (HA.out _ (HP.out.below (by go_grown))).mono ?_); rintro e w3 ⟨rfl, hb⟩; have AC := Lib.hid (Below.next (a := w) (by go_grown) hb); clear hb)
        go_ret
        exact ⟨retB HV.out.symm, AC.out⟩
    · have HV := Lib.hid (show V = false by rw [hV]; simp [inB, h1, h2])
      clear hV h HA
      go_enter Try.func70, Try.ntmps70
      go_wp2
      go_ret
      exact ⟨retB HV.out.symm, by go_grown⟩
  · have HV := Lib.hid (show V = false by rw [hV]; simp [inB, h1])
    clear hV h HA
    go_enter Try.func70, Try.ntmps70
    go_wp2
    go_ret
    exact ⟨retB HV.out.symm, by go_grown⟩
set_option maxRecDepth 100000 in
set_option maxHeartbeats 2000000 in
theorem clearance_any (d : Dg) (v : Value) (ps : Pts) (w : World) (hs : d.1.size ≤ maxLen) (h : PtsC w v ps) :
    Calls Try.prog 40 #[.agg #[.string d.1, .int .i64 d.2.1, .int .i64 d.2.2.1, .int .i64 d.2.2.2], v] w fun e w' => e = .returned (.tuple #[.int .i64 (clrA d ps), .int .i64 (clrE d ps)]) ∧ Below w.heap.size w w' := by
  obtain ⟨s, x, y, z⟩ := d
  have HV := fun w' => validdg_any s x y z w' hs
  have HO := fun w' (h : PtsC w' v ps) => ispath_any v ps w' h.1
  have HP := Lib.hid h
  simp only
  obtain ⟨a, c, rfl⟩ := pts_len h.1
  cases hk : okD (s, x, y, z)
  · rw [hk] at HV
    have HV := Lib.hid HV
    obtain ⟨e1, e2⟩ := clr_no (ps := ps) hk
    rw [e1, e2]
    clear h hk HO e1 e2
    go_enter Try.func40, Try.ntmps40
    go_wp2_with (go_at_call 22; (refine (HV.out _).mono ?_); rintro e w1 ⟨rfl, hb⟩; have AC := Lib.hid (Below.next (a := w) (by go_grown) hb); clear hb)
    refine bodyPost_ret (v := .tuple #[.int .i64 0, .int .i64 1]) (by simp [results, Try.results40, go_sem, *]) rfl ⟨rfl, AC.out⟩
  · rw [hk] at HV
    have HV := Lib.hid HV
    obtain ⟨_, _, _, hz1, hz2⟩ := okD_parts hk
    cases hq : pathB ps
    · rw [hq] at HO
      have HO := Lib.hid HO
      obtain ⟨e1, e2⟩ := clr_out (d := (s, x, y, z)) hq
      rw [e1, e2]
      clear h hk hq e1 e2
      go_enter Try.func40, Try.ntmps40
      go_wp2_with (first
        | (go_at_call 22; (refine (HV.out _).mono ?_); rintro e w1 ⟨rfl, hb⟩; have AC := Lib.hid (Below.next (a := w) (by go_grown) hb); clear hb)
        | (go_at_call 72; (refine (HO.out _ (HP.out.below AC.out)).mono ?_); rintro e w2 ⟨rfl, hb⟩; have AC2 := Lib.hid (Below.next AC.out hb); clear hb))
      refine bodyPost_ret (v := .tuple #[.int .i64 0, .int .i64 1]) (by simp [results, Try.results40, go_sem, *]) rfl ⟨rfl, AC2.out⟩
    · rw [hq] at HO
      have HO := Lib.hid HO
      obtain ⟨p1, p2, p3⟩ := pathB_parts hq
      have HD := Lib.hid (fun w' h => clear_any (s, x, y, z) (.slice a ps.length c) ps w' p1 p2 ⟨hz1, hz2⟩ h)
      obtain ⟨e1, e2⟩ := clr_in hk hq
      rw [e1, e2]
      clear h hk hq e1 e2 p3
      generalize clrV (s, x, y, z) ps = R at *
      simp only at HD
      go_enter Try.func40, Try.ntmps40
      go_wp2_with (first
        | (go_at_call 22; (refine (HV.out _).mono ?_); rintro e w1 ⟨rfl, hb⟩; have x0 := cell_below (a := ⟨w.heap.size, 0, none⟩) (v := .string s) (by go_cell) hb; have x1 := cell_below (a := ⟨w.heap.size, 1, none⟩) (v := .int .i64 x) (by go_cell) hb; have x2 := cell_below (a := ⟨w.heap.size, 2, none⟩) (v := .int .i64 y) (by go_cell) hb; have x3 := cell_below (a := ⟨w.heap.size, 3, none⟩) (v := .int .i64 z) (by go_cell) hb; have AC := Lib.hid (Below.next (a := w) (by go_grown) hb); clear hb)
        | (go_at_call 72; (refine (HO.out _ (HP.out.below AC.out)).mono ?_); rintro e w2 ⟨rfl, hb⟩; have y0 := cell_below x0 hb; have y1 := cell_below x1 hb; have y2 := cell_below x2 hb; have y3 := cell_below x3 hb; have AC2 := Lib.hid (Below.next AC.out hb); clear hb)
        | (go_at_call 73; (refine (HD.out _ (HP.out.below AC2.out)).mono ?_); rintro e w3 ⟨rfl, hb⟩; have AC3 := Lib.hid (Below.next AC2.out hb); clear hb))
      refine bodyPost_ret (v := .tuple #[.int .i64 R, .int .i64 0]) (by simp [results, Try.results40, go_sem, *]) rfl ⟨rfl, AC3.out⟩
set_option maxRecDepth 100000 in
set_option maxHeartbeats 2000000 in
theorem sclearance_any (d : Dg) (v : Value) (ps : Pts) (w : World) (hs : d.1.size ≤ maxLen) (hl : ps.length ≤ 1048576) (h : PtsL w v ps) :
    Calls Try.prog 38 #[.agg #[.string d.1, .int .i64 d.2.1, .int .i64 d.2.2.1, .int .i64 d.2.2.2], v] w fun e w' => e = .returned (.tuple #[.int .i64 (clrA d ps), .int .i64 (clrE d ps)]) ∧ Below w.heap.size w w' := by
  have HV := fun b w' h => sone_any b 0 d w' hs h
  have HO := fun w' (h : PtsL w' v ps) => spath_any v ps w' hl h
  have HP := Lib.hid h
  have D0 := Lib.hid (DgAt.new (w := w) (T := 44) d w.heap.size rfl)
  obtain ⟨a, c, rfl⟩ := pts_len h
  cases hk : okD d
  · rw [hk] at HV
    have HV := Lib.hid HV
    obtain ⟨e1, e2⟩ := clr_no (ps := ps) hk
    rw [e1, e2]
    clear h hk HO e1 e2
    go_enter Try.func38, Try.ntmps38
    go_wp2_with (go_at_call 54; (refine (HV.out _ _ D0.out).mono ?_); rintro e w1 ⟨rfl, hb⟩; have AC := Lib.hid (Below.next (a := w) (by go_grown) hb); clear hb)
    refine bodyPost_ret (v := .tuple #[.int .i64 0, .int .i64 1]) (by simp [results, Try.results38, go_sem, *]) rfl ⟨rfl, AC.out⟩
  · rw [hk] at HV
    have HV := Lib.hid HV
    obtain ⟨_, _, ho, hz1, hz2⟩ := okD_parts hk
    cases hq : pathB ps
    · rw [hq] at HO
      have HO := Lib.hid HO
      obtain ⟨e1, e2⟩ := clr_out (d := d) hq
      rw [e1, e2]
      clear h hk hq e1 e2 ho
      go_enter Try.func38, Try.ntmps38
      go_wp2_with (first
        | (go_at_call 54; (refine (HV.out _ _ D0.out).mono ?_); rintro e w1 ⟨rfl, hb⟩; have AC := Lib.hid (Below.next (a := w) (by go_grown) hb); clear hb)
        | (go_at_call 70; (refine (HO.out _ (HP.out.below AC.out)).mono ?_); rintro e w2 ⟨rfl, hb⟩; have AC2 := Lib.hid (Below.next AC.out hb); clear hb))
      refine bodyPost_ret (v := .tuple #[.int .i64 0, .int .i64 1]) (by simp [results, Try.results38, go_sem, *]) rfl ⟨rfl, AC2.out⟩
    · rw [hq] at HO
      have HO := Lib.hid HO
      obtain ⟨p1, p2, p3⟩ := pathB_parts hq
      have HD := Lib.hid (fun b w' h1 h => sclear_any b 0 d (.slice a ps.length c) ps w' p1 p2 ⟨hz1, hz2⟩ p3 ho h1 h)
      obtain ⟨e1, e2⟩ := clr_in hk hq
      rw [e1, e2]
      clear h hk hq e1 e2 p3 ho
      generalize clrV d ps = R at *
      go_enter Try.func38, Try.ntmps38
      go_wp2_with (first
        | (go_at_call 54; (refine (HV.out _ _ D0.out).mono ?_); rintro e w1 ⟨rfl, hb⟩; have D1 := Lib.hid (D0.out.below hb); have AC := Lib.hid (Below.next (a := w) (by go_grown) hb); clear hb)
        | (go_at_call 70; (refine (HO.out _ (HP.out.below AC.out)).mono ?_); rintro e w2 ⟨rfl, hb⟩; have D2 := Lib.hid (D1.out.below hb); have AC2 := Lib.hid (Below.next AC.out hb); clear hb)
        | (go_at_call 71; (refine (HD.out _ _ D2.out (HP.out.below AC2.out)).mono ?_); rintro e w3 ⟨rfl, hb⟩; have AC3 := Lib.hid (Below.next AC2.out hb); clear hb))
      refine bodyPost_ret (v := .tuple #[.int .i64 R, .int .i64 0]) (by simp [results, Try.results38, go_sem, *]) rfl ⟨rfl, AC3.out⟩
end Go.Proofs.Ythccbipjmheoaaa
