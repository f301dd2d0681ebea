/- The kind of mark at a point of a danger: the program's, the model's. -/
import Derived.Test.YthccbipjmheoaaaDoorDgv
import Derived.Test.YthccbipjmheoaaaDoorBearA
import Derived.Test.YthccbipjmheoaaaDoorLQuadrantOf
import Derived.Test.YthccbipjmheoaaaDoorPte
import Derived.Deep.RegionHeld3
namespace Go.Proofs.YthccbipjmheoaaaDoor
open Go.ChangeShapes Go.WideShapes Go.ChangeAt Go.RowKit Pm

/-- The kind, and the error. -/
def CardIs (d : Dg) (px py K E : Int) : Prop :=
  if (okD d && inB 0 200000 [px, py]) = true then (if ptB (px, py) (d.2.1, d.2.2.1) = true then K = 0 ∧ E = 6 else ∃ r, BearIs d.2.1 d.2.2.1 px py r ∧ K = quadK r ∧ E = 0) else K = 0 ∧ E = 1
theorem CardIs.one {d : Dg} {px py K E K' E' : Int} (h : CardIs d px py K E) (k : CardIs d px py K' E') : K = K' ∧ E = E' := by
  unfold CardIs at h k
  split at h
  · rename_i hc
    rw [if_pos hc] at k
    split at h
    · rename_i hb
      rw [if_pos hb] at k
      exact ⟨by rw [h.1, k.1], by rw [h.2, k.2]⟩
    · rename_i hb
      rw [if_neg hb] at k
      obtain ⟨r, hr, rfl, rfl⟩ := h
      obtain ⟨r', hr', rfl, rfl⟩ := k
      exact ⟨by rw [hr.one hr'], rfl⟩
  · rename_i hc
    rw [if_neg hc] at k
    exact ⟨by rw [h.1, k.1], by rw [h.2, k.2]⟩
theorem card_in {d : Dg} {px py r : Int} (hk : okD d = true) (hq : inB 0 200000 [px, py] = true) (hb : ptB (px, py) (d.2.1, d.2.2.1) = false) (h : BearIs d.2.1 d.2.2.1 px py r) : CardIs d px py (quadK r) 0 := by
  unfold CardIs
  rw [if_pos (by rw [hk, hq]; rfl), if_neg (by rw [hb]; simp)]
  exact ⟨r, h, rfl, rfl⟩
theorem card_same {d : Dg} {px py : Int} (hk : okD d = true) (hq : inB 0 200000 [px, py] = true) (hb : ptB (px, py) (d.2.1, d.2.2.1) = true) : CardIs d px py 0 6 := by
  unfold CardIs
  rw [if_pos (by rw [hk, hq]; rfl), if_pos hb]
  exact ⟨rfl, rfl⟩
theorem bear_in {ax ay bx cy r : Int} (h : BearIs ax ay bx cy r) : inB 0 359 [r] = true := by
  unfold BearIs at h
  split at h
  · have h1 := h.1
    have h2 := h.2.1
    simp [inB]
    omega
  · subst h; rfl
set_option maxRecDepth 100000 in
set_option maxHeartbeats 2000000 in
theorem cardinalat_any (s : ByteArray) (x y z px py : Int) (w : World) (hs : s.size ≤ maxLen) (hS : SinesAt w) :
    Calls Tryd.prog 10 #[.agg #[.string s, .int .i64 x, .int .i64 y, .int .i64 z], .agg #[.int .i64 px, .int .i64 py]] w fun e w' => ∃ K E, CardIs (s, x, y, z) px py K E ∧ e = .returned (.tuple #[.int .i64 K, .int .i64 E]) ∧ Below w.heap.size w w' := by
  have HV := fun w' => validdg_any s x y z w' hs
  have HO := fun w' => ok_any px py w'
  have HSI := Lib.hid hS
  clear hS
  cases hk : okD (s, x, y, z)
  · rw [hk] at HV
    have HV := Lib.hid HV
    have HC := Lib.hid (show CardIs (s, x, y, z) px py 0 1 by unfold CardIs; rw [hk]; exact ⟨rfl, rfl⟩)
    clear hk HO
    go_enter Tryd.func10, Tryd.ntmps10
    go_wp2_with (go_at_call 21; (refine (HV.out _).mono ?_); rintro e w1 ⟨rfl, hb⟩; have AC := Lib.hid (Below.next (a := w) (by go_grown) hb); clear hb)
    refine bodyPost_ret (v := .tuple #[.int .i64 0, .int .i64 1]) (by simp [results, Tryd.results10, go_sem, *]) rfl ⟨_, _, HC.out, rfl, AC.out⟩
  rw [hk] at HV
  have HV := Lib.hid HV
  cases hq : inB 0 200000 [px, py]
  · rw [hq] at HO
    have HO := Lib.hid HO
    have HC := Lib.hid (show CardIs (s, x, y, z) px py 0 1 by unfold CardIs; rw [hq, Bool.and_false]; exact ⟨rfl, rfl⟩)
    clear hk hq
    go_enter Tryd.func10, Tryd.ntmps10
    go_wp2_with (first
      | (go_at_call 21; (refine (HV.out _).mono ?_); rintro e w1 ⟨rfl, hb⟩; have p0 := cell_below (a := ⟨w.heap.size + 1, 0, none⟩) (v := .int .i64 px) (by go_cell) hb; have p1 := cell_below (a := ⟨w.heap.size + 1, 1, none⟩) (v := .int .i64 py) (by go_cell) hb; have AC := Lib.hid (Below.next (a := w) (by go_grown) hb); clear hb)
      | (go_at_call 22; (refine (HO.out _).mono ?_); rintro e w2 ⟨rfl, hb⟩; have AC2 := Lib.hid (Below.next AC.out hb); clear hb))
    refine bodyPost_ret (v := .tuple #[.int .i64 0, .int .i64 1]) (by simp [results, Tryd.results10, go_sem, *]) rfl ⟨_, _, HC.out, rfl, AC2.out⟩
  rw [hq] at HO
  have HO := Lib.hid HO
  have hgd := ptGuard
  have hne := fun w => ptEql px x py y w
  cases hb : ptB (px, py) (x, y)
  · rw [hb] at hne
    have HC := Lib.hid (fun r (h : BearIs x y px py r) => show CardIs (s, x, y, z) px py (quadK r) 0 from card_in hk hq hb h)
    clear hk hq hb
    go_enter Tryd.func10, Tryd.ntmps10
    go_wp2_with (first
      | (go_at_call 21; (refine (HV.out _).mono ?_); rintro e w1 ⟨rfl, hb⟩; have x1 := cell_below (a := ⟨w.heap.size, 1, none⟩) (v := .int .i64 x) (by go_cell) hb; have x2 := cell_below (a := ⟨w.heap.size, 2, none⟩) (v := .int .i64 y) (by go_cell) hb; have p0 := cell_below (a := ⟨w.heap.size + 1, 0, none⟩) (v := .int .i64 px) (by go_cell) hb; have p1 := cell_below (a := ⟨w.heap.size + 1, 1, none⟩) (v := .int .i64 py) (by go_cell) hb; have AC := Lib.hid (Below.next (a := w) (by go_grown) hb); clear hb)
      | (go_at_call 22; (refine (HO.out _).mono ?_); rintro e w2 ⟨rfl, hb⟩; have y1 := cell_below x1 hb; have y2 := cell_below x2 hb; have q0 := cell_below p0 hb; have q1 := cell_below p1 hb; have AC2 := Lib.hid (Below.next AC.out hb); clear hb)
      | (go_at_call 24; (refine (bearing_any x y px py _ (HSI.out.below AC2.out)).mono ?_); rintro e w3 ⟨r, hr, rfl, hb⟩; have AC3 := Lib.hid (Below.next AC2.out hb); have HR := Lib.hid hr; clear hb hr)
      | (go_at_call 23; (refine (quadrant_yes r _ (bear_in HR.out)).mono ?_); rintro e w4 ⟨rfl, hb⟩; have AC4 := Lib.hid (Below.next AC3.out hb); clear hb))
    refine bodyPost_ret (v := .tuple #[.int .i64 (quadK r), .int .i64 0]) (by simp [results, Tryd.results10, go_sem, *]) rfl ⟨_, _, HC.out r HR.out, rfl, AC4.out⟩
  · rw [hb] at hne
    have HC := Lib.hid (show CardIs (s, x, y, z) px py 0 6 from card_same hk hq hb)
    clear hk hq hb
    go_enter Tryd.func10, Tryd.ntmps10
    go_wp2_with (first
      | (go_at_call 21; (refine (HV.out _).mono ?_); rintro e w1 ⟨rfl, hb⟩; have x1 := cell_below (a := ⟨w.heap.size, 1, none⟩) (v := .int .i64 x) (by go_cell) hb; have x2 := cell_below (a := ⟨w.heap.size, 2, none⟩) (v := .int .i64 y) (by go_cell) hb; have p0 := cell_below (a := ⟨w.heap.size + 1, 0, none⟩) (v := .int .i64 px) (by go_cell) hb; have p1 := cell_below (a := ⟨w.heap.size + 1, 1, none⟩) (v := .int .i64 py) (by go_cell) hb; have AC := Lib.hid (Below.next (a := w) (by go_grown) hb); clear hb)
      | (go_at_call 22; (refine (HO.out _).mono ?_); rintro e w2 ⟨rfl, hb⟩; have y1 := cell_below x1 hb; have y2 := cell_below x2 hb; have q0 := cell_below p0 hb; have q1 := cell_below p1 hb; have AC2 := Lib.hid (Below.next AC.out hb); clear hb))
    refine bodyPost_ret (v := .tuple #[.int .i64 0, .int .i64 6]) (by simp [results, Tryd.results10, go_sem, *]) rfl ⟨_, _, HC.out, rfl, AC2.out⟩
set_option maxRecDepth 100000 in
set_option maxHeartbeats 2000000 in
theorem skind14_any (b : Nat) (s : ByteArray) (x y z px py : Int) (w : World) (hv : okB (x, y) = true) (hq : okB (px, py) = true) (h : DgAt w b 0 (s, x, y, z)) :
    Calls Tryd.prog 20 #[.pointer (some ⟨b, 0, none⟩), .agg #[.int .i64 px, .int .i64 py]] w fun e w' => ∃ r, BearIs x y px py r ∧ e = .returned (.int .i64 (quadK r)) ∧ Below w.heap.size w w' := by
  have HBR := Lib.hid (fun w' => (sl02bear_any x y px py w' (vd_of hv) (vd_of hq)).mono (R' := fun e w'' => ∃ r, BearIs x y px py r ∧ e = .returned (.int .i64 r) ∧ Below w'.heap.size w' w'') (fun e w'' ⟨r, hr, he, hb⟩ => ⟨r, by unfold BearIs; rw [hv, hq]; exact hr, he, hb⟩))
  have HQD := Lib.hid (fun r (hr : BearIs x y px py r) w' => (squadrant_any r w').mono (R' := fun e w'' => e = .returned (.tuple #[.int .i64 (quadK r), .int .i64 0]) ∧ w' = w'') (fun e w'' ⟨he, hw⟩ => ⟨by rw [he, bear_in hr]; rfl, hw⟩))
  have ab := (Below.refl w.heap.size w).alloc (Nat.le_refl _) (.cells #[.int .i64 px, .int .i64 py] 29)
  have H0 := Lib.hid (show (w.alloc (.cells #[.int .i64 px, .int .i64 py] 29)).cell? ⟨b, 1, none⟩ = some (.int .i64 x) ∧ (w.alloc (.cells #[.int .i64 px, .int .i64 py] 29)).cell? ⟨b, 2, none⟩ = some (.int .i64 y) ∧ (w.alloc (.cells #[.int .i64 px, .int .i64 py] 29)).cell? ⟨w.heap.size, 0, none⟩ = some (.int .i64 px) ∧ (w.alloc (.cells #[.int .i64 px, .int .i64 py] 29)).cell? ⟨w.heap.size, 1, none⟩ = some (.int .i64 py) ∧ Below w.heap.size w (w.alloc (.cells #[.int .i64 px, .int .i64 py] 29)) from ⟨cell_below h.2.1 ab, cell_below h.2.2.1 ab, by simp, by simp, ab⟩)
  clear ab h hv hq
  go_enter Tryd.func20, Tryd.ntmps20
  go_wp2_with (fail)
  go_region_held3 (fun w' => w'.cell? ⟨b, 1, none⟩ = some (.int .i64 x) ∧ w'.cell? ⟨b, 2, none⟩ = some (.int .i64 y) ∧ w'.cell? ⟨w.heap.size, 0, none⟩ = some (.int .i64 px) ∧ w'.cell? ⟨w.heap.size, 1, none⟩ = some (.int .i64 py) ∧ Below w.heap.size w w')
    (first | (with_reducible assumption) | (with_reducible exact keep4 (by assumption) (by assumption)) | (with_reducible exact drew4 H0.out))
    (first
      | (go_at_call 36; (with_reducible refine (HBR.out _).mono ?_); rintro en w2 ⟨r, hr, rfl, hb⟩; have HR := Lib.hid hr)
      | (go_at_call 35; (refine (HQD.out _ hr _).mono ?_); rintro en w3 ⟨rfl, rfl⟩))
  all_goals
    rename_i hH
    have HB2 := Lib.hid hH.2.2.2.2
    clear hH
    go_wp2_with (fail)
    go_ret
    exact ⟨r, HR.out, rfl, HB2.out⟩
set_option maxRecDepth 100000 in
set_option maxHeartbeats 2000000 in
theorem scardinalat_any (s : ByteArray) (x y z px py : Int) (w : World) (hs : s.size ≤ maxLen) :
    Calls Tryd.prog 7 #[.agg #[.string s, .int .i64 x, .int .i64 y, .int .i64 z], .agg #[.int .i64 px, .int .i64 py]] w fun e w' => ∃ K E, CardIs (s, x, y, z) px py K E ∧ e = .returned (.tuple #[.int .i64 K, .int .i64 E]) ∧ Below w.heap.size w w' := by
  have HV := fun b w' h => sone_any b 0 (s, x, y, z) w' hs h
  have HO := fun w' => sok_any px py w'
  have D0 := Lib.hid ((show DgAt (w.alloc (.cells #[.string s, .int .i64 x, .int .i64 y, .int .i64 z] 31)) w.heap.size 0 (s, x, y, z) from DgAt.new (w := w) (T := 31) (s, x, y, z) w.heap.size rfl).below ((Below.refl _ _).alloc (Nat.le_refl _) (.cells #[.int .i64 px, .int .i64 py] 29)))
  cases hk : okD (s, x, y, z)
  · rw [hk] at HV
    have HV := Lib.hid HV
    have HC := Lib.hid (show CardIs (s, x, y, z) px py 0 1 by unfold CardIs; rw [hk]; exact ⟨rfl, rfl⟩)
    clear hk HO
    go_enter Tryd.func7, Tryd.ntmps7
    go_wp2_with (go_at_call 18; (refine (HV.out _ _ D0.out).mono ?_); rintro e w1 ⟨rfl, hb⟩; have AC := Lib.hid (Below.next (a := w) (by go_grown) hb); clear hb)
    refine bodyPost_ret (v := .tuple #[.int .i64 0, .int .i64 1]) (by simp [results, Tryd.results7, go_sem, *]) rfl ⟨_, _, HC.out, rfl, AC.out⟩
  rw [hk] at HV
  have HV := Lib.hid HV
  cases hq : inB 0 200000 [px, py]
  · rw [hq] at HO
    have HO := Lib.hid HO
    have HC := Lib.hid (show CardIs (s, x, y, z) px py 0 1 by unfold CardIs; rw [hq, Bool.and_false]; exact ⟨rfl, rfl⟩)
    clear hk hq
    go_enter Tryd.func7, Tryd.ntmps7
    go_wp2_with (first
      | (go_at_call 18; (refine (HV.out _ _ D0.out).mono ?_); rintro e w1 ⟨rfl, hb⟩; have p0 := cell_below (a := ⟨w.heap.size + 1, 0, none⟩) (v := .int .i64 px) (by go_cell) hb; have p1 := cell_below (a := ⟨w.heap.size + 1, 1, none⟩) (v := .int .i64 py) (by go_cell) hb; have AC := Lib.hid (Below.next (a := w) (by go_grown) hb); clear hb)
      | (go_at_call 19; (refine (HO.out _).mono ?_); rintro e w2 ⟨rfl, hb⟩; have AC2 := Lib.hid (Below.next AC.out hb); clear hb))
    refine bodyPost_ret (v := .tuple #[.int .i64 0, .int .i64 1]) (by simp [results, Tryd.results7, go_sem, *]) rfl ⟨_, _, HC.out, rfl, AC2.out⟩
  rw [hq] at HO
  have HO := Lib.hid HO
  have hokd := okD_parts hk
  have HKD := Lib.hid (fun b w' h => skind14_any b s x y z px py w' hokd.2.2.1 hq h)
  have hgd := ptGuard
  have hne := fun w => ptEql x px y py w
  have hsym : ptB (x, y) (px, py) = ptB (px, py) (x, y) := by
    unfold ptB
    simp only
    rw [Bool.beq_comm (a := x), Bool.beq_comm (a := y)]
  rw [hsym] at hne
  clear hokd hsym
  cases hb : ptB (px, py) (x, y)
  · rw [hb] at hne
    have HC := Lib.hid (fun r (h : BearIs x y px py r) => show CardIs (s, x, y, z) px py (quadK r) 0 from card_in hk hq hb h)
    clear hk hq hb
    go_enter Tryd.func7, Tryd.ntmps7
    go_wp2_with (first
      | (go_at_call 18; (refine (HV.out _ _ D0.out).mono ?_); rintro e w1 ⟨rfl, hb⟩; have D1 := Lib.hid (D0.out.below hb); have x1 := cell_below (a := ⟨w.heap.size, 1, none⟩) (v := .int .i64 x) (by go_cell) hb; have x2 := cell_below (a := ⟨w.heap.size, 2, none⟩) (v := .int .i64 y) (by go_cell) hb; have p0 := cell_below (a := ⟨w.heap.size + 1, 0, none⟩) (v := .int .i64 px) (by go_cell) hb; have p1 := cell_below (a := ⟨w.heap.size + 1, 1, none⟩) (v := .int .i64 py) (by go_cell) hb; have AC := Lib.hid (Below.next (a := w) (by go_grown) hb); clear hb)
      | (go_at_call 19; (refine (HO.out _).mono ?_); rintro e w2 ⟨rfl, hb⟩; have D2 := Lib.hid (D1.out.below hb); have y1 := cell_below x1 hb; have y2 := cell_below x2 hb; have q0 := cell_below p0 hb; have q1 := cell_below p1 hb; have AC2 := Lib.hid (Below.next AC.out hb); clear hb)
      | (go_at_call 20; (refine (HKD.out _ _ D2.out).mono ?_); rintro e w3 ⟨r, hr, rfl, hb⟩; have AC3 := Lib.hid (Below.next AC2.out hb); have HR := Lib.hid hr; clear hb hr))
    refine bodyPost_ret (v := .tuple #[.int .i64 (quadK r), .int .i64 0]) (by simp [results, Tryd.results7, go_sem, *]) rfl ⟨_, _, HC.out r HR.out, rfl, AC3.out⟩
  · rw [hb] at hne
    have HC := Lib.hid (show CardIs (s, x, y, z) px py 0 6 from card_same hk hq hb)
    clear hk hq hb
    go_enter Tryd.func7, Tryd.ntmps7
    go_wp2_with (first
      | (go_at_call 18; (refine (HV.out _ _ D0.out).mono ?_); rintro e w1 ⟨rfl, hb⟩; have x1 := cell_below (a := ⟨w.heap.size, 1, none⟩) (v := .int .i64 x) (by go_cell) hb; have x2 := cell_below (a := ⟨w.heap.size, 2, none⟩) (v := .int .i64 y) (by go_cell) hb; have p0 := cell_below (a := ⟨w.heap.size + 1, 0, none⟩) (v := .int .i64 px) (by go_cell) hb; have p1 := cell_below (a := ⟨w.heap.size + 1, 1, none⟩) (v := .int .i64 py) (by go_cell) hb; have AC := Lib.hid (Below.next (a := w) (by go_grown) hb); clear hb)
      | (go_at_call 19; (refine (HO.out _).mono ?_); rintro e w2 ⟨rfl, hb⟩; have y1 := cell_below x1 hb; have y2 := cell_below x2 hb; have q0 := cell_below p0 hb; have q1 := cell_below p1 hb; have AC2 := Lib.hid (Below.next AC.out hb); clear hb))
    refine bodyPost_ret (v := .tuple #[.int .i64 0, .int .i64 6]) (by simp [results, Tryd.results7, go_sem, *]) rfl ⟨_, _, HC.out, rfl, AC2.out⟩
end Go.Proofs.YthccbipjmheoaaaDoor
