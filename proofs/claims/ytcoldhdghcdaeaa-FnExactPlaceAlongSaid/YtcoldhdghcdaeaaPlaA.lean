/- The place along a channel: both words whole. -/
import Derived.Test.YtcoldhdghcdaeaaPlaS
namespace Go.Proofs.Ytcoldhdghcdaeaa
open Go.ChangeShapes Go.WideShapes Go.ChangeAt Go.RowKit Pm

noncomputable def plI (ps : Pts) (d : Int) : Nat := open Classical in if h : ∃ i, SegIx ps d i then Classical.choose h else 0
theorem plI_eq {ps : Pts} {d : Int} {i : Nat} (h : SegIx ps d i) : plI ps d = i := by
  unfold plI
  rw [dif_pos ⟨i, h⟩]
  exact (Classical.choose_spec (⟨i, h⟩ : ∃ i, SegIx ps d i)).one h
noncomputable def plE (s : ByteArray) (ps : Pts) (z d : Int) : Int := if okC s ps z = true then (if inB 0 (begV ps (ps.length - 1)) [d] = true then 0 else 2) else 1
noncomputable def plX (s : ByteArray) (ps : Pts) (z d : Int) : Int := if plE s ps z d = 0 then btwX (ps.getD (plI ps d) (0, 0)).1 (ps.getD (plI ps d) (0, 0)).2 (ps.getD (plI ps d + 1) (0, 0)).1 (ps.getD (plI ps d + 1) (0, 0)).2 (d - begV ps (plI ps d)) (dL ps (plI ps d)) else 0
noncomputable def plY (s : ByteArray) (ps : Pts) (z d : Int) : Int := if plE s ps z d = 0 then btwY (ps.getD (plI ps d) (0, 0)).1 (ps.getD (plI ps d) (0, 0)).2 (ps.getD (plI ps d + 1) (0, 0)).1 (ps.getD (plI ps d + 1) (0, 0)).2 (d - begV ps (plI ps d)) (dL ps (plI ps d)) else 0
theorem pl_no {s : ByteArray} {ps : Pts} {z d : Int} (h : okC s ps z = false) : plE s ps z d = 1 ∧ plX s ps z d = 0 ∧ plY s ps z d = 0 := by
  have e : plE s ps z d = 1 := by unfold plE; rw [h]; rfl
  unfold plX plY
  rw [e]
  exact ⟨rfl, rfl, rfl⟩
theorem pl_out {s : ByteArray} {ps : Pts} {z d : Int} (h : okC s ps z = true) (k : inB 0 (begV ps (ps.length - 1)) [d] = false) : plE s ps z d = 2 ∧ plX s ps z d = 0 ∧ plY s ps z d = 0 := by
  have e : plE s ps z d = 2 := by unfold plE; rw [h, k]; rfl
  unfold plX plY
  rw [e]
  exact ⟨rfl, rfl, rfl⟩
theorem pl_in {s : ByteArray} {ps : Pts} {z d : Int} {i : Nat} (h : okC s ps z = true) (k : inB 0 (begV ps (ps.length - 1)) [d] = true) (hi : SegIx ps d i) : plE s ps z d = 0 ∧ plX s ps z d = btwX (ps.getD i (0, 0)).1 (ps.getD i (0, 0)).2 (ps.getD (i + 1) (0, 0)).1 (ps.getD (i + 1) (0, 0)).2 (d - begV ps i) (dL ps i) ∧ plY s ps z d = btwY (ps.getD i (0, 0)).1 (ps.getD i (0, 0)).2 (ps.getD (i + 1) (0, 0)).1 (ps.getD (i + 1) (0, 0)).2 (d - begV ps i) (dL ps i) := by
  have e : plE s ps z d = 0 := by unfold plE; rw [h, k]; rfl
  unfold plX plY
  rw [e, plI_eq hi]
  exact ⟨rfl, rfl, rfl⟩
/-- What the walk holds: the box of the channel, the cell of the answer. -/
def PlK (w' : World) (B : Nat) (s : ByteArray) (v : Value) (z : Int) : Prop :=
  ChnAt w' B s v z ∧ w'.cell? ⟨B + 1, 0, none⟩ = some (.int .i64 0) ∧ w'.cell? ⟨B + 1, 1, none⟩ = some (.int .i64 0) ∧ w'.frozen? ⟨B + 1, 0, none⟩ = false ∧ w'.frozen? ⟨B + 1, 1, none⟩ = false
theorem PlK.below {w1 w2 : World} {B : Nat} {s : ByteArray} {v : Value} {z : Int} (h : PlK w1 B s v z) (hb : Below w1.heap.size w1 w2) : PlK w2 B s v z := by
  obtain ⟨h0, h1, h2, h3, h4⟩ := h
  obtain ⟨a, b, c, d⟩ := gfresh2 h1 h2 h3 h4 hb
  exact ⟨h0.below hb, a, b, c, d⟩
theorem PlK.new (w : World) (s : ByteArray) (v : Value) (z : Int) {T U : TypeId} : PlK ((w.alloc (.cells #[.string s, v, .int .i64 z] T)).alloc (.cells #[.int .i64 0, .int .i64 0] U)) w.heap.size s v z := by
  refine ⟨(ChnAt.new s v z _ rfl).below ((Below.refl _ _).alloc (Nat.le_refl _) _), ?_, ?_, ?_, ?_⟩ <;> simp
set_option maxRecDepth 100000 in
set_option maxHeartbeats 2000000 in
theorem placealong_any (s : ByteArray) (z : Int) (v : Value) (ps : Pts) (d : Int) (w : World) (hs : s.size ≤ maxLen) (hm : ps.length ≤ 1048576) (h : PtsC w v ps) :
    Calls Try.prog 21 #[.agg #[.string s, v, .int .i64 z], .int .i64 d] w fun e w' => e = .returned (.tuple #[.agg #[.int .i64 (plX s ps z d), .int .i64 (plY s ps z d)], .int .i64 (plE s ps z d)]) ∧ Below w.heap.size w w' := by
  have HV := fun w' (h : PtsC w' v ps) => validchn_any s z v ps w' hs hm h.1
  have HP := Lib.hid h
  cases hk : okC s ps z
  · rw [hk] at HV
    have HV := Lib.hid HV
    obtain ⟨e1, e2, e3⟩ := pl_no (d := d) hk
    obtain ⟨a, c, rfl⟩ := pts_len h.1
    clear h hk
    rw [e1, e2, e3]
    clear e1 e2 e3
    go_enter Try.func21, Try.ntmps21
    go_wp2_with (go_at_call 14; (with_reducible refine (HV.out _ (HP.out.below (by go_grown))).mono ?_); rintro e w1 ⟨rfl, hb⟩; have K1 := Lib.hid ((PlK.new w s (.slice a ps.length c) z).below hb); obtain ⟨⟨x0, x1, x2⟩, r0, r1, f0, f1⟩ := K1.out; have AC := Lib.hid (Below.next (a := w) (by go_grown) hb); clear hb)
    refine bodyPost_ret (v := .tuple #[.agg #[.int .i64 0, .int .i64 0], .int .i64 1]) (by simp [results, Try.results21, go_sem, *]) rfl ⟨rfl, ?_⟩
    repeat (refine Below.setCell ?_ (Nat.le_succ _) _)
    exact AC.out
  · rw [hk] at HV
    have HV := Lib.hid HV
    obtain ⟨_, h2, h12, hok, _, _, hst⟩ := okC_parts hk
    obtain ⟨bb, off, cap, rfl, hcap, hc⟩ := h.cells (by omega)
    have HL := Lib.hid (fun (w' : World) (hb : Below w.heap.size w w') => (callsIn_wide (n := 3)).1 (chlen_in 3 (Nat.le_refl _) bb off cap ps h2 h12 hcap s z w' (fun i hi => ⟨cell_below (hc i hi).1 hb, cell_below (hc i hi).2 hb⟩)))
    have HW := fun (w' : World) (m : Nat) (hm : w'.heap.size = m) => within_any 0 (begV ps (ps.length - 1)) _ [d] _ (ints_one_at w' d m hm)
    cases hin : inB 0 (begV ps (ps.length - 1)) [d]
    · rw [hin] at HW
      have HW := Lib.hid HW
      obtain ⟨e1, e2, e3⟩ := pl_out hk hin
      clear h hk hc hin
      rw [e1, e2, e3]
      clear e1 e2 e3
      generalize begV ps (ps.length - 1) = L at *
      go_enter Try.func21, Try.ntmps21
      go_wp2_with (first
        | (go_at_call 14; (with_reducible refine (HV.out _ (HP.out.below (by go_grown))).mono ?_); rintro e w1 ⟨rfl, hb⟩; have K1 := Lib.hid ((PlK.new w s (.slice (some ⟨bb, off, none⟩) ps.length cap) z).below hb); obtain ⟨⟨x0, x1, x2⟩, r0, r1, f0, f1⟩ := K1.out; have AC1 := Lib.hid (Below.next (a := w) (by go_grown) hb); clear hb)
        | (go_at_call 49; (with_reducible refine (HL.out _ AC1.out).mono ?_); rintro e w2 ⟨rfl, hb⟩; have K2 := Lib.hid (K1.out.below hb); obtain ⟨⟨x20, x21, x22⟩, r20, r21, f20, f21⟩ := K2.out; have AC2 := Lib.hid (Below.next AC1.out hb); clear hb)
        | (go_at_call 44; (with_reducible refine (HW.out _ _ (by simp)).mono ?_); rintro e w3 ⟨rfl, rfl⟩; have K3 := Lib.hid (K2.out.below ((Below.refl _ _).alloc (Nat.le_refl _) (.cells #[.int .i64 d] 2))); obtain ⟨⟨x30, x31, x32⟩, r30, r31, f30, f31⟩ := K3.out))
      refine bodyPost_ret (v := .tuple #[.agg #[.int .i64 0, .int .i64 0], .int .i64 2]) (by simp [results, Try.results21, go_sem, *]) rfl ⟨rfl, ?_⟩
      repeat (refine Below.setCell ?_ (Nat.le_succ _) _)
      exact AC2.out.alloc AC2.out.size _
    · rw [hin] at HW
      have HW := Lib.hid HW
      have hin2 : 0 ≤ d ∧ d ≤ begV ps (ps.length - 1) := by simpa [inB] using hin
      have HS := fun (w' : World) (hb : Below w.heap.size w w') => (callsIn_wide (n := 3)).1 (segat_in 3 (Nat.le_refl _) bb off cap ps h2 h12 hcap s z d hin2.2 w' (fun i hi => ⟨cell_below (hc i hi).1 hb, cell_below (hc i hi).2 hb⟩))
      obtain ⟨i, hi⟩ := segix_ex h2 hin2.2
      obtain ⟨e1, e2, e3⟩ := pl_in hk hin hi
      have hr := hi.rest hin2.1
      have hd := dL_step hi.1 hok hst
      have o1 := hok i (by have := hi.1; omega)
      have o2 := hok (i + 1) hi.1
      have hbE : btwE (ps.getD i (0, 0)).1 (ps.getD i (0, 0)).2 (ps.getD (i + 1) (0, 0)).1 (ps.getD (i + 1) (0, 0)).2 (d - begV ps i) (dL ps i) = 0 := btwE0 (by rw [show okB ((ps.getD i (0, 0)).1, (ps.getD i (0, 0)).2) = true from o1, show okB ((ps.getD (i + 1) (0, 0)).1, (ps.getD (i + 1) (0, 0)).2) = true from o2]; rfl) (by unfold okRange; simp [inB]; omega)
      have HPL := fun w' => place_any (ps.getD i (0, 0)).1 (ps.getD i (0, 0)).2 (ps.getD (i + 1) (0, 0)).1 (ps.getD (i + 1) (0, 0)).2 (begV ps i) (dL ps i) d (d - begV ps i) (IntWalk.wrap64_in _ (by omega)) w'
      unfold btwPX btwPY at HPL
      rw [hbE, if_pos rfl, if_pos rfl] at HPL
      have HS := Lib.hid (fun w' hb => (HS w' hb).mono (R' := fun e w'' => e = .returned (.agg #[.int .i64 (ps.getD i (0, 0)).1, .int .i64 (ps.getD i (0, 0)).2, .int .i64 (ps.getD (i + 1) (0, 0)).1, .int .i64 (ps.getD (i + 1) (0, 0)).2, .int .i64 (begV ps i), .int .i64 (dL ps i)]) ∧ Below w'.heap.size w' w'') (fun e w'' ⟨j, hj, he, hb⟩ => ⟨by rw [he, hj.one hi]; rfl, hb⟩))
      have HPL := Lib.hid HPL
      clear h hk hc hin hin2 hi hr hd o1 o2 hbE hok hst
      rw [e1, e2, e3]
      clear e1 e2 e3
      generalize begV ps (ps.length - 1) = L at *
      generalize (ps.getD i (0, 0)).1 = q0 at *
      generalize (ps.getD i (0, 0)).2 = q1 at *
      generalize (ps.getD (i + 1) (0, 0)).1 = q2 at *
      generalize (ps.getD (i + 1) (0, 0)).2 = q3 at *
      generalize d - begV ps i = dr at *
      generalize begV ps i = q4 at *
      generalize dL ps i = q5 at *
      generalize btwX q0 q1 q2 q3 dr q5 = X at *
      generalize btwY q0 q1 q2 q3 dr q5 = Y at *
      go_enter Try.func21, Try.ntmps21
      go_wp2_with (first
        | (go_at_call 14; (with_reducible refine (HV.out _ (HP.out.below (by go_grown))).mono ?_); rintro e w1 ⟨rfl, hb⟩; have K1 := Lib.hid ((PlK.new w s (.slice (some ⟨bb, off, none⟩) ps.length cap) z).below hb); obtain ⟨⟨x0, x1, x2⟩, r0, r1, f0, f1⟩ := K1.out; have AC1 := Lib.hid (Below.next (a := w) (by go_grown) hb); clear hb)
        | (go_at_call 49; (with_reducible refine (HL.out _ AC1.out).mono ?_); rintro e w2 ⟨rfl, hb⟩; have K2 := Lib.hid (K1.out.below hb); obtain ⟨⟨x20, x21, x22⟩, r20, r21, f20, f21⟩ := K2.out; have AC2 := Lib.hid (Below.next AC1.out hb); clear hb)
        | (go_at_call 44; (with_reducible refine (HW.out _ _ (by simp)).mono ?_); rintro e w3 ⟨rfl, rfl⟩; have K3 := Lib.hid (K2.out.below ((Below.refl _ _).alloc (Nat.le_refl _) (.cells #[.int .i64 d] 2))); have AC3 := Lib.hid (AC2.out.alloc AC2.out.size (.cells #[.int .i64 d] 2)); obtain ⟨⟨x30, x31, x32⟩, r30, r31, f30, f31⟩ := K3.out)
        | (go_at_call 52; (with_reducible refine (HS.out _ AC3.out).mono ?_); rintro e w4 ⟨rfl, hb⟩; have K4 := Lib.hid (K3.out.below hb); obtain ⟨⟨x40, x41, x42⟩, r40, r41, f40, f41⟩ := K4.out; have AC4 := Lib.hid (Below.next AC3.out hb); clear hb)
        | (go_at_call 53; (with_reducible refine (HPL.out _).mono ?_); rintro e w5 ⟨rfl, hb⟩; have K5 := Lib.hid (K4.out.below hb); obtain ⟨⟨x50, x51, x52⟩, r50, r51, f50, f51⟩ := K5.out; have AC5 := Lib.hid (Below.next AC4.out hb); clear hb))
      refine bodyPost_ret (v := .tuple #[.agg #[.int .i64 X, .int .i64 Y], .int .i64 0]) (by simp [results, Try.results21, go_sem, *]) rfl ⟨rfl, ?_⟩
      repeat (refine Below.setCell ?_ (Nat.le_succ _) _)
      exact AC5.out
end Go.Proofs.Ytcoldhdghcdaeaa
