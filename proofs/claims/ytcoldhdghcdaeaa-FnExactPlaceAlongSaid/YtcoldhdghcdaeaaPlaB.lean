/- The place along a channel: the model's word whole. -/
import Derived.Test.YtcoldhdghcdaeaaPlaA
namespace Go.Proofs.Ytcoldhdghcdaeaa
open Go.ChangeShapes Go.WideShapes Go.ChangeAt Go.RowKit Pm

set_option maxRecDepth 100000 in
set_option maxHeartbeats 2000000 in
theorem splacealong_any (s : ByteArray) (z : Int) (v : Value) (ps : Pts) (d : Int) (w : World) (hs : s.size ≤ maxLen) (hm : ps.length ≤ 1048576) (h : PtsL w v ps) :
    Calls Try.prog 20 #[.agg #[.string s, v, .int .i64 z], .int .i64 d] w fun e w' => e = .returned (.tuple #[.agg #[.int .i64 (plX s ps z d), .int .i64 (plY s ps z d)], .int .i64 (plE s ps z d)]) ∧ Below w.heap.size w w' := by
  have HV := fun b w' h1 h2 => sokchn_any b s z v ps w' hs hm h1 h2
  have HP := Lib.hid h
  obtain ⟨a, c, rfl⟩ := pts_len h
  cases hk : okC s ps z
  · rw [hk] at HV
    have HV := Lib.hid HV
    obtain ⟨e1, e2, e3⟩ := pl_no (d := d) hk
    clear h hk
    rw [e1, e2, e3]
    clear e1 e2 e3
    go_enter Try.func20, Try.ntmps20
    go_wp2_with (go_at_call 38; (refine (HV.out _ _ (HP.out.below (by go_grown)) (PlK.new w s (.slice a ps.length c) z).1).mono ?_); rintro e w1 ⟨rfl, hb⟩; have K1 := Lib.hid ((PlK.new w s (.slice a ps.length c) z).below hb); obtain ⟨⟨x0, x1, x2⟩, r0, r1, f0, f1⟩ := K1.out; have AC := Lib.hid (Below.next (a := w) (by go_grown) hb); clear hb)
    refine bodyPost_ret (v := .tuple #[.agg #[.int .i64 0, .int .i64 0], .int .i64 1]) (by simp [results, Try.results20, go_sem, *]) rfl ⟨rfl, ?_⟩
    repeat (refine Below.setCell ?_ (Nat.le_succ _) _)
    exact AC.out
  · rw [hk] at HV
    have HV := Lib.hid HV
    obtain ⟨_, h2, h12, hok, _, _, hst⟩ := okC_parts hk
    have HL := Lib.hid (fun w' h => sl13len_any (.slice a ps.length c) ps w' (by omega) h12 hok h)
    have HI := fun w' => in_any d 0 (begV ps (ps.length - 1)) w'
    cases hin : inB 0 (begV ps (ps.length - 1)) [d]
    · rw [hin] at HI
      have HI := Lib.hid HI
      obtain ⟨e1, e2, e3⟩ := pl_out hk hin
      clear h hk hin
      rw [e1, e2, e3]
      clear e1 e2 e3
      generalize begV ps (ps.length - 1) = L at *
      go_enter Try.func20, Try.ntmps20
      go_wp2_with (first
        | (go_at_call 38; (refine (HV.out _ _ (HP.out.below (by go_grown)) (PlK.new w s (.slice a ps.length c) z).1).mono ?_); rintro e w1 ⟨rfl, hb⟩; have K1 := Lib.hid ((PlK.new w s (.slice a ps.length c) z).below hb); obtain ⟨⟨x0, x1, x2⟩, r0, r1, f0, f1⟩ := K1.out; have AC1 := Lib.hid (Below.next (a := w) (by go_grown) hb); clear hb)
        | (go_at_call 48; (with_reducible refine (HL.out _ (HP.out.below AC1.out)).mono ?_); rintro e w2 ⟨rfl, hb⟩; have K2 := Lib.hid (K1.out.below hb); obtain ⟨⟨x20, x21, x22⟩, r20, r21, f20, f21⟩ := K2.out; have AC2 := Lib.hid (Below.next AC1.out hb); clear hb)
        | (go_at_call 50; (with_reducible refine (HI.out _).mono ?_); rintro e w3 ⟨rfl, rfl⟩))
      refine bodyPost_ret (v := .tuple #[.agg #[.int .i64 0, .int .i64 0], .int .i64 2]) (by simp [results, Try.results20, go_sem, *]) rfl ⟨rfl, ?_⟩
      repeat (refine Below.setCell ?_ (Nat.le_succ _) _)
      exact AC2.out
    · rw [hin] at HI
      have HI := Lib.hid HI
      have hin2 : 0 ≤ d ∧ d ≤ begV ps (ps.length - 1) := by simpa [inB] using hin
      have hbl := (begV_bd ps (ps.length - 1)).2
      obtain ⟨i, hi⟩ := segix_ex h2 hin2.2
      obtain ⟨e1, e2, e3⟩ := pl_in hk hin hi
      have HPL := Lib.hid (fun w' h => splace_any (.slice a ps.length c) ps d i w' h12 hi hin2.1 (by omega) hok hst h)
      clear h hk hin hin2 hi hok hst hbl
      rw [e1, e2, e3]
      clear e1 e2 e3
      generalize btwX (ps.getD i (0, 0)).1 (ps.getD i (0, 0)).2 (ps.getD (i + 1) (0, 0)).1 (ps.getD (i + 1) (0, 0)).2 (d - begV ps i) (dL ps i) = X at *
      generalize btwY (ps.getD i (0, 0)).1 (ps.getD i (0, 0)).2 (ps.getD (i + 1) (0, 0)).1 (ps.getD (i + 1) (0, 0)).2 (d - begV ps i) (dL ps i) = Y at *
      generalize begV ps (ps.length - 1) = L at *
      go_enter Try.func20, Try.ntmps20
      go_wp2_with (first
        | (go_at_call 38; (refine (HV.out _ _ (HP.out.below (by go_grown)) (PlK.new w s (.slice a ps.length c) z).1).mono ?_); rintro e w1 ⟨rfl, hb⟩; have K1 := Lib.hid ((PlK.new w s (.slice a ps.length c) z).below hb); obtain ⟨⟨x0, x1, x2⟩, r0, r1, f0, f1⟩ := K1.out; have AC1 := Lib.hid (Below.next (a := w) (by go_grown) hb); clear hb)
        | (go_at_call 48; (with_reducible refine (HL.out _ (HP.out.below AC1.out)).mono ?_); rintro e w2 ⟨rfl, hb⟩; have K2 := Lib.hid (K1.out.below hb); obtain ⟨⟨x20, x21, x22⟩, r20, r21, f20, f21⟩ := K2.out; have AC2 := Lib.hid (Below.next AC1.out hb); clear hb)
        | (go_at_call 50; (with_reducible refine (HI.out _).mono ?_); rintro e w3 ⟨rfl, rfl⟩)
        | (go_at_call 51; (with_reducible refine (HPL.out _ (HP.out.below AC2.out)).mono ?_); rintro e w5 ⟨rfl, hb⟩; have K5 := Lib.hid (K2.out.below hb); obtain ⟨⟨x50, x51, x52⟩, r50, r51, f50, f51⟩ := K5.out; have AC5 := Lib.hid (Below.next AC2.out hb); clear hb))
      refine bodyPost_ret (v := .tuple #[.agg #[.int .i64 X, .int .i64 Y], .int .i64 0]) (by simp [results, Try.results20, go_sem, *]) rfl ⟨rfl, ?_⟩
      repeat (refine Below.setCell ?_ (Nat.le_succ _) _)
      exact AC5.out
end Go.Proofs.Ytcoldhdghcdaeaa
