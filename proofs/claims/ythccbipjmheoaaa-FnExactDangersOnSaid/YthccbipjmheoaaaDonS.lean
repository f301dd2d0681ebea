/- DangersOn: the model's word. -/
import Derived.Test.YthccbipjmheoaaaDonX
namespace Go.Proofs.Ythccbipjmheoaaa
open Go.ChangeShapes Go.WideShapes Go.ChangeAt Go.RowKit Pm

set_option maxRecDepth 100000 in
set_option maxHeartbeats 4000000 in
theorem sdangerson_any (sv qv : Value) (ps : List Dg) (qs : Pts) (m : Int) (w : World) (hl : ps.length ≤ 1048576) (hsz : ∀ i, i < ps.length → (ps.getD i dg0).1.size ≤ maxLen) (hs : DgAre w sv ps) (hq : PtsL w qv qs) :
    Calls Try.prog 42 #[sv, qv, .int .i64 m] w (NamRet (donN ps qs m) (donE ps qs m) w) := by
  have HV := fun w' h => sokdgs_any sv ps w' hl hsz h
  have HO := fun w' h => spath_any qv qs w' h
  have HM := fun w' => in_any m 0 20000 w'
  have HG := Lib.hid hs
  have HQ := Lib.hid hq
  obtain ⟨a, c, rfl, _, hrow⟩ := hs
  obtain ⟨a2, c2, rfl⟩ := pts_len hq
  unfold NamRet
  cases hk : validDs ps
  · rw [hk] at HV
    have HV := Lib.hid HV
    obtain ⟨e1, e2⟩ := don_no (m := m) (show (validDs ps && pathB qs) = false by rw [hk]; rfl)
    rw [e1, e2]
    clear hk HO HM e1 e2 hq hrow
    go_enter Try.func42, Try.ntmps42
    go_wp2_with (go_at_call 57; (refine (HV.out _ (HG.out.below (by go_grown))).mono ?_); rintro e w1 ⟨rfl, hb⟩; have AC := Lib.hid (Below.next (a := w) (by go_grown) hb); clear hb)
    refine bodyPost_ret (v := .tuple #[.slice none 0 0, .int .i64 1]) (by simp [results, Try.results42, go_sem, *]) rfl ⟨_, rfl, OwnSO.none _ _, AC.out⟩
  · rw [hk] at HV
    have HV := Lib.hid HV
    cases hp : pathB qs
    · rw [hp] at HO
      have HO := Lib.hid HO
      obtain ⟨e1, e2⟩ := don_no (m := m) (show (validDs ps && pathB qs) = false by rw [hp, Bool.and_false])
      rw [e1, e2]
      clear hk hp HM e1 e2 hq hrow
      go_enter Try.func42, Try.ntmps42
      go_wp2_with (first
        | (go_at_call 57; (refine (HV.out _ (HG.out.below (by go_grown))).mono ?_); rintro e w1 ⟨rfl, hb⟩; have AC := Lib.hid (Below.next (a := w) (by go_grown) hb); clear hb)
        | (go_at_call 70; (refine (HO.out _ (HQ.out.below AC.out)).mono ?_); rintro e w2 ⟨rfl, hb⟩; have AC2 := Lib.hid (Below.next AC.out hb); clear hb))
      refine bodyPost_ret (v := .tuple #[.slice none 0 0, .int .i64 1]) (by simp [results, Try.results42, go_sem, *]) rfl ⟨_, rfl, OwnSO.none _ _, AC2.out⟩
    · rw [hp] at HO
      have HO := Lib.hid HO
      have hboth : (validDs ps && pathB qs) = true := by rw [hk, hp]; rfl
      cases hm : inB 0 20000 [m]
      · rw [hm] at HM
        have HM := Lib.hid HM
        obtain ⟨e1, e2⟩ := don_out hboth hm
        rw [e1, e2]
        clear hk hp hm hboth e1 e2 hq hrow
        go_enter Try.func42, Try.ntmps42
        go_wp2_with (first
          | (go_at_call 57; (refine (HV.out _ (HG.out.below (by go_grown))).mono ?_); rintro e w1 ⟨rfl, hb⟩; have AC := Lib.hid (Below.next (a := w) (by go_grown) hb); clear hb)
          | (go_at_call 70; (refine (HO.out _ (HQ.out.below AC.out)).mono ?_); rintro e w2 ⟨rfl, hb⟩; have AC2 := Lib.hid (Below.next AC.out hb); clear hb)
          | (go_at_call 75; (refine (HM.out _).mono ?_); rintro e w3 ⟨rfl, rfl⟩))
        refine bodyPost_ret (v := .tuple #[.slice none 0 0, .int .i64 2]) (by simp [results, Try.results42, go_sem, *]) rfl ⟨_, rfl, OwnSO.none _ _, AC2.out⟩
      · rw [hm] at HM
        have HM := Lib.hid HM
        obtain ⟨e1, e2⟩ := don_in hboth hm
        rw [e1, e2]
        obtain ⟨p1', p2', p3'⟩ := pathB_parts hp
        obtain ⟨_, hok⟩ := validDs_parts hk
        have HD := Lib.hid (fun i (hi : i < ps.length) (b o : Nat) w' h0 h1 => sclear_any b o (ps.getD i dg0) (.slice a2 qs.length c2) qs w' p1' p2' (by have h := okD_parts (hok i hi); exact ⟨h.2.2.2.1, h.2.2.2.2⟩) p3' (okD_parts (hok i hi)).2.2.1 h0 h1)
        clear hk hp hm hboth e1 e2 hq p1' p2' p3' hok
        go_enter Try.func42, Try.ntmps42
        go_wp2_with (first
          | (go_at_call 57; (refine (HV.out _ (HG.out.below (by go_grown))).mono ?_); rintro e w1 ⟨rfl, hb⟩; have AC := Lib.hid (Below.next (a := w) (by go_grown) hb); clear hb)
          | (go_at_call 70; (refine (HO.out _ (HQ.out.below AC.out)).mono ?_); rintro e w2 ⟨rfl, hb⟩; have AC2 := Lib.hid (Below.next AC.out hb); clear hb)
          | (go_at_call 75; (refine (HM.out _).mono ?_); rintro e w3 ⟨rfl, rfl⟩; refine Hid.out ?_))
        refine Lib.hid ?_
        have hsw : w.heap.size ≤ w2.heap.size := AC2.out.size
        clear HV HO HM
        rcases hrow with rfl | ⟨b, off, rfl, hc⟩
        · go_wp2
          go_rounds 1
          refine bodyPost_ret (v := .tuple #[.slice (some ⟨w2.heap.size, 0, none⟩) 0 0, .int .i64 0]) (by simp [results, Try.results42, go_sem, *]) rfl ⟨_, rfl, OwnSO.litd w2 _ _ rfl hsw, AC2.out.alloc AC2.out.size _⟩
        · have HC := Lib.hid hc
          clear hc
          go_wp2_with (fail)
          go_loopw [8, 9] (fun v i wr => ∃ k : Nat, k ≤ ps.length ∧ i = .int .i64 k ∧ OwnSO wr w.heap.size v (namesB (nrB qs m) (ps.take k)) ∧ Below w.heap.size w wr) (fun _ i _ => ps.length - (intOf i).toNat)
          case atStart => exact ⟨0, Nat.zero_le _, rfl, OwnSO.litd w2 _ _ rfl hsw, AC2.out.alloc AC2.out.size _⟩
          case round =>
            obtain ⟨k, hk, rfl, hown, hbel⟩ := hrel
            have HOW := Lib.hid hown
            have HB := Lib.hid hbel
            clear hown
            by_cases hlt : k < ps.length
            · have hkn : (k : Int) < (ps.length : Int) := by omega
              have D0 := Lib.hid (show DgAt wr b (off + k * 4) (ps.getD k dg0) from ⟨cell_below (HC.out k hlt).1 hbel, cell_below (HC.out k hlt).2.1 hbel, cell_below (HC.out k hlt).2.2.1 hbel, cell_below (HC.out k hlt).2.2.2 hbel⟩)
              have HCL := Lib.hid (HD.out k hlt b (off + k * 4))
              have HS := Lib.hid (show namesB (nrB qs m) (ps.take (k + 1)) = namesB (nrB qs m) (ps.take k) ++ (if nrB qs m (ps.getD k dg0) then [(ps.getD k dg0).1] else []) by rw [dg_take ps k hlt, namesB_snoc])
              have hll : (namesB (nrB qs m) (ps.take k)).length ≤ 1048577 := Nat.le_trans (namesB_len _ _) (by rw [List.length_take]; omega)
              generalize namesB (nrB qs m) (ps.take k) = L at *
              have HCV := Lib.hid (show nrB qs m (ps.getD k dg0) = decide (clrV (ps.getD k dg0) qs < m) from rfl)
              generalize ps.getD k dg0 = q at *
              obtain ⟨s, x, y, z⟩ := q
              generalize clrV (s, x, y, z) qs = R at *
              clear hbel
              by_cases hgz : R < m
              · have HS2 := Lib.hid (show namesB (nrB qs m) (ps.take (k + 1)) = L ++ [s] by rw [HS.out, HCV.out, decide_eq_true hgz]; rfl)
                go_wp2_with (first
                  | (go_at_call 71; (refine (HCL.out _ D0.out (HQ.out.below HB.out)).mono ?_); rintro e w5 ⟨rfl, hb⟩; have HO5 := Lib.hid (HOW.out.below hb); have HB5 := Lib.hid (Below.next HB.out hb); have d0 := (D0.out.below hb).1; clear hb)
                  | (at_builtin; (refine wpList_app_so rfl _ _ w.heap.size _ L s w _ _ HO5.out HB5.out (Nat.le_refl _) hll rfl rfl _ rfl rfl ?_)))
                intro v6 w6 h6 hb6
                have HO6 := Lib.hid h6
                have HB6 := Lib.hid hb6
                clear h6 hb6
                go_wp2
                go_roundw
                case rel => exact ⟨k + 1, by omega, by go_num, by rw [HS2.out]; exact HO6.out, HB6.out⟩
                case measure => simp [intOf]; omega
              · have HS2 := Lib.hid (show namesB (nrB qs m) (ps.take (k + 1)) = L by rw [HS.out, HCV.out, decide_eq_false hgz]; simp)
                go_wp2_with (go_at_call 71; (refine (HCL.out _ D0.out (HQ.out.below HB.out)).mono ?_); rintro e w5 ⟨rfl, hb⟩; have HO5 := Lib.hid (HOW.out.below hb); have HB5 := Lib.hid (Below.next HB.out hb); clear hb)
                go_roundw
                case rel => exact ⟨k + 1, by omega, by go_num, by rw [HS2.out]; exact HO5.out, HB5.out⟩
                case measure => simp [intOf]; omega
            · obtain rfl : k = ps.length := by omega
              have HO := Lib.hid (show OwnSO wr w.heap.size _ (namesB (nrB qs m) ps) from by have := HOW.out; rw [List.take_of_length_le (Nat.le_refl _)] at this; exact this)
              clear hbel HOW
              go_wp2
              refine bodyPost_ret (v := .tuple #[u8, .int .i64 0]) (by simp [results, Try.results42, go_sem, *]) rfl ⟨_, rfl, HO.out, HB.out⟩
end Go.Proofs.Ythccbipjmheoaaa
