/- The nearest segment, whole: the program's. -/
import Derived.Test.YthccbipjmheoaaaMinF
import Derived.Test.YthccbipjmheoaaaNearS
namespace Go.Proofs.Ythccbipjmheoaaa
open Go.ChangeShapes Go.WideShapes Go.ChangeAt Go.RowKit Pm

theorem segsV_at (ps : Pts) : ∀ (pre : List Nat) (i j : Nat) (v : Value), i < pre.length → (segC ps (pre.getD i 0))[j]? = some v → (segsV ps pre)[i * 6 + j]? = some v
  | [], i, j, v, h, _ => absurd h (Nat.not_lt_zero _)
  | x :: xs, 0, j, v, _, hv => by
    have hj : j < 6 := (Array.getElem?_eq_some_iff.1 hv).1
    have e : segsV ps (x :: xs) = (segC ps x).toList ++ segsV ps xs := by simp only [segsV, List.flatMap_cons]
    rw [e, Nat.zero_mul, Nat.zero_add, List.getElem?_append_left (by show j < 6; exact hj)]
    simpa using hv
  | x :: xs, i + 1, j, v, h, hv => by
    have e : segsV ps (x :: xs) = (segC ps x).toList ++ segsV ps xs := by simp only [segsV, List.flatMap_cons]
    have hl : (segC ps x).toList.length = 6 := rfl
    rw [e, List.getElem?_append_right (by rw [hl]; omega), hl, show (i + 1) * 6 + j - 6 = i * 6 + j by omega]
    exact segsV_at ps xs i j v (by simpa using h) (by simpa using hv)
theorem OwnSg.row {w : World} {B : Nat} {v : Value} {ps : Pts} {n : Nat} (h : OwnSg w B v ps (List.range n)) (hn : 1 ≤ n) : ∃ g cap, v = .slice (some ⟨g, 0, none⟩) n cap ∧ SegRow w g ps n := by
  unfold OwnSg at h
  rcases h.2 with ⟨_, h0⟩ | ⟨g, cap, cur, rfl, _, hh, _, _, _, htk⟩
  · simp at h0
    omega
  · refine ⟨g, cap, by rw [List.length_range], fun i hi j u hu => ?_⟩
    have hv := segsV_at ps (List.range n) i j u (by simpa using hi) (by rw [show (List.range n).getD i 0 = i by simp [hi]]; exact hu)
    rw [← htk, List.getElem?_take] at hv
    split at hv
    · simp [World.cell?, hh]
      simpa using hv
    · cases hv
set_option maxRecDepth 100000 in
set_option maxHeartbeats 1000000 in
theorem nearest_any (bb off cap : Nat) (ps : Pts) (h2 : 2 ≤ ps.length) (h12 : ps.length ≤ 12) (hcap : ps.length ≤ cap) (s : ByteArray) (z : Int) (q : Int × Int) (w : World)
    (hc : ∀ i, i < ps.length → w.cell? ⟨bb, off + i * 2, none⟩ = some (.int .i64 (ps.getD i (0, 0)).1) ∧ w.cell? ⟨bb, off + i * 2 + 1, none⟩ = some (.int .i64 (ps.getD i (0, 0)).2)) :
    Calls Try.prog 50 #[.agg #[.string s, .slice (some ⟨bb, off, none⟩) ps.length cap, .int .i64 z], .agg #[.int .i64 q.1, .int .i64 q.2]] w fun e w' => e = .returned (segV ps (nearUp ps q (ps.length - 2))) ∧ Below w.heap.size w w' := by
  have HCL := Lib.hid (fun (w' : World) (Bn : Nat) (hb : Below w.heap.size w w') (hBn : ChnAt w' Bn s (.slice (some ⟨bb, off, none⟩) ps.length cap) z) => collect_any Bn bb off cap ps h2 h12 hcap s z w' hBn (fun i hi => ⟨cell_below (hc i hi).1 hb, cell_below (hc i hi).2 hb⟩))
  have HRW := Lib.hid (fun (w' : World) (B : Nat) (v : Value) (ho : OwnSg w' B v ps (List.range (ps.length - 1))) => ho.row (by omega))
  have HMF := Lib.hid (fun g cap P w' h1 h2 h3 => (minf_any g cap (ps.length - 1) ps q P w' (by omega) (by omega) h1 h2 h3).mono (R' := fun e w'' => e = .returned (segV ps (nearUp ps q (ps.length - 2))) ∧ Below w'.heap.size w' w'') (fun e w'' h => by rw [show ps.length - 1 - 1 = ps.length - 2 by omega] at h; exact h))
  obtain ⟨j, hj⟩ : ∃ j, j = nearUp ps q (ps.length - 2) := ⟨_, rfl⟩
  rw [← hj] at HMF ⊢
  obtain ⟨qx, qy⟩ := q
  clear hj hc
  go_enter Try.func50, Try.ntmps50
  go_wp2_with (first
    | (go_at_call 85; refine (segs_any _ _ _ _ _ _).mono ?_; rintro e w1 ⟨rfl, rfl⟩)
    | (go_at_call 84; refine (HCL.out _ (w.heap.size + 1 + 1 + 1) (by go_grown) (ChnAt.new _ _ _ _ (by simp))).mono ?_; rintro e w2 ⟨v, rfl, ho, hb⟩; refine Hid.out ?_))
  refine Lib.hid ?_
  obtain ⟨g, c2, rfl, hrow⟩ := HRW.out _ _ _ ho
  have p0 := cell_below (a := ⟨w.heap.size + 1, 0, none⟩) (v := .int .i64 qx) (by go_cell) hb
  have p1 := cell_below (a := ⟨w.heap.size + 1, 1, none⟩) (v := .int .i64 qy) (by go_cell) hb
  have bR : BlkAt w2 (w.heap.size + 1 + 1) #[.int .i64 0, .int .i64 0, .int .i64 0, .int .i64 0, .int .i64 0, .int .i64 0] 79 := by
    refine BlkAt.below ?_ hb
    have h := BlkAt.new ((w.alloc (.cells #[.string s, .slice (some ⟨bb, off, none⟩) ps.length cap, .int .i64 z] 31)).alloc (.cells #[.int .i64 qx, .int .i64 qy] 33)) #[.int .i64 0, .int .i64 0, .int .i64 0, .int .i64 0, .int .i64 0, .int .i64 0] 79
    rw [World.size_alloc, World.size_alloc] at h
    exact h.alloc _
  have AC := Lib.hid (Below.next (a := w) (by go_grown) hb)
  clear ho hb
  go_wp2_with (go_at_call 83; refine (HMF.out _ _ _ _ hrow p0 p1).mono ?_; rintro e w3 ⟨rfl, hb⟩; refine Hid.out ?_)
  refine Lib.hid ?_
  have bR := bR.below hb
  have AC := Lib.hid (Below.next AC.out hb)
  clear hb hrow p0 p1
  have r0 := bR.cell 0 _ rfl
  have r1 := bR.cell 1 _ rfl
  have r2 := bR.cell 2 _ rfl
  have r3 := bR.cell 3 _ rfl
  have r4 := bR.cell 4 _ rfl
  have r5 := bR.cell 5 _ rfl
  have m0 := bR.frozen 0
  have m1 := bR.frozen 1
  have m2 := bR.frozen 2
  have m3 := bR.frozen 3
  have m4 := bR.frozen 4
  have m5 := bR.frozen 5
  clear bR
  unfold segV
  go_wp2_with (fail)
  refine bodyPost_ret (v := segV ps j) ?_ rfl ⟨rfl, six_below (by omega) AC.out⟩
  unfold segV
  simp [results, Try.results50, go_sem, r0, r1, r2, r3, r4, r5]
end Go.Proofs.Ythccbipjmheoaaa
