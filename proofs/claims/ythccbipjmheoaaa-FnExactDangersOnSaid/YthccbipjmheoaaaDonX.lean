/- The names of the dangers near a path: the program's. DangersOn: the program's word whole. -/
import Derived.Test.YthccbipjmheoaaaNmsX
namespace Go.Proofs.Ythccbipjmheoaaa
open Go.ChangeShapes Go.WideShapes Go.ChangeAt Go.RowKit Pm

set_option maxRecDepth 100000 in
set_option maxHeartbeats 2000000 in
theorem nameson_any (sv : Value) (ps : List Dg) (f : Dg → Bool) (A M : Nat) (w : World) (hl : ps.length ≤ 1048576) (hs : DgAre w sv ps)
    (H : ∀ i, i < ps.length → ∀ w', Below w.heap.size w w' → Calls Try.prog 77 #[.agg #[.string (ps.getD i dg0).1, .int .i64 (ps.getD i dg0).2.1, .int .i64 (ps.getD i dg0).2.2.1, .int .i64 (ps.getD i dg0).2.2.2], .pointer (some ⟨A, 0, none⟩), .pointer (some ⟨M, 0, none⟩)] w' fun e w'' => e = .returned (.bool (f (ps.getD i dg0))) ∧ Below w'.heap.size w' w'') :
    Calls Try.prog 67 #[sv, .func (.func 77) #[] #[.pointer (some ⟨A, 0, none⟩), .pointer (some ⟨M, 0, none⟩)]] w fun e w' => ∃ v, e = .returned v ∧ OwnSO w' w.heap.size v (namesB f ps) ∧ Below w.heap.size w w' := by
  obtain ⟨a, cap, rfl, _, h⟩ := hs
  rcases h with rfl | ⟨b, off, rfl, hc⟩
  · go_enter Try.func67, Try.ntmps67
    go_wp2
    go_rounds 1
    go_ret
    exact ⟨_, rfl, OwnSO.none _ _, Below.refl _ _⟩
  · have HC := Lib.hid hc
    have HH := Lib.hid H
    clear hc H
    go_enter Try.func67, Try.ntmps67
    go_wp2_with (fail)
    go_loopw [5, 10] (fun v i wr => ∃ k : Nat, k ≤ ps.length ∧ i = .int .i64 k ∧ OwnSO wr w.heap.size v (namesB f (ps.take k)) ∧ Below w.heap.size w wr) (fun _ i _ => ps.length - (intOf i).toNat)
    case atStart => exact ⟨0, Nat.zero_le _, rfl, OwnSO.none _ _, Below.refl _ _⟩
    case round =>
      obtain ⟨k, hk, rfl, hown, hbel⟩ := hrel
      have HOW := Lib.hid hown
      have HB := Lib.hid hbel
      clear hown
      by_cases hlt : k < ps.length
      · have hkn : (k : Int) < (ps.length : Int) := by omega
        have c0 := cell_below (HC.out k hlt).1 hbel
        have c1 := cell_below (HC.out k hlt).2.1 hbel
        have c2 := cell_below (HC.out k hlt).2.2.1 hbel
        have c3 := cell_below (HC.out k hlt).2.2.2 hbel
        have HS := Lib.hid (show namesB f (ps.take (k + 1)) = namesB f (ps.take k) ++ (if f (ps.getD k dg0) then [(ps.getD k dg0).1] else []) by rw [dg_take ps k hlt, namesB_snoc])
        have H1 := Lib.hid (HH.out k hlt)
        have hll : (namesB f (ps.take k)).length ≤ 1048577 := Nat.le_trans (namesB_len _ _) (by rw [List.length_take]; omega)
        have DN := DgAt.new (w := wr) (T := 44) (ps.getD k dg0) wr.heap.size rfl
        generalize namesB f (ps.take k) = L at *
        obtain ⟨V, hV⟩ : ∃ V, V = f (ps.getD k dg0) := ⟨_, rfl⟩
        rw [← hV] at H1 HS
        clear hV
        generalize ps.getD k dg0 = q at *
        obtain ⟨s, x, y, z⟩ := q
        simp only at c0 c1 c2 c3 H1 HS DN
        have DN := Lib.hid DN
        have HBA := Lib.hid (HB.out.alloc HB.out.size (.cells #[.string s, .int .i64 x, .int .i64 y, .int .i64 z] 44))
        clear hbel
        cases V
        · have HS2 := Lib.hid (show namesB f (ps.take (k + 1)) = L by rw [HS.out]; simp)
          go_wp2_with (go_at_call 77; refine (H1.out _ HBA.out).mono ?_; rintro e w2 ⟨rfl, hb⟩; have HO2 := Lib.hid ((HOW.out.below ((Below.refl _ _).alloc (Nat.le_refl _) _)).below hb); have HB2 := Lib.hid (Below.next HBA.out hb); clear hb)
          go_roundw
          case rel => exact ⟨k + 1, by omega, by go_num, by rw [HS2.out]; exact HO2.out, HB2.out⟩
          case measure => simp [intOf]; omega
        · have HS2 := Lib.hid (show namesB f (ps.take (k + 1)) = L ++ [s] by rw [HS.out]; simp)
          go_wp2_with (first
            | (go_at_call 77; refine (H1.out _ HBA.out).mono ?_; rintro e w2 ⟨rfl, hb⟩; have HO2 := Lib.hid ((HOW.out.below ((Below.refl _ _).alloc (Nat.le_refl _) _)).below hb); have HB2 := Lib.hid (Below.next HBA.out hb); have d0 := (DN.out.below hb).1; clear hb)
            | (at_builtin; (refine wpList_app_so rfl _ _ w.heap.size _ L s w _ _ HO2.out HB2.out (Nat.le_refl _) hll rfl rfl _ rfl rfl ?_)))
          intro v5 w5 h5 hb5
          have HO5 := Lib.hid h5
          have HB5 := Lib.hid hb5
          clear h5 hb5
          go_wp2
          go_roundw
          case rel => exact ⟨k + 1, by omega, by go_num, by rw [HS2.out]; exact HO5.out, HB5.out⟩
          case measure => simp [intOf]; omega
      · obtain rfl : k = ps.length := by omega
        have HO := Lib.hid (show OwnSO wr w.heap.size _ (namesB f ps) from by have := HOW.out; rw [List.take_of_length_le (Nat.le_refl _)] at this; exact this)
        clear hbel HOW
        go_wp2
        go_ret
        exact ⟨_, rfl, HO.out, HB.out⟩
end Go.Proofs.Ythccbipjmheoaaa
namespace Go.Proofs.Ythccbipjmheoaaa
open Go.ChangeShapes Go.WideShapes Go.ChangeAt Go.RowKit Pm

/-- Is a danger nearer to a path than a margin? -/
noncomputable def nrB (qs : Pts) (m : Int) (d : Dg) : Bool := decide (clrV d qs < m)
noncomputable def donN (ps : List Dg) (qs : Pts) (m : Int) : List ByteArray := if (validDs ps && pathB qs) = true then (if inB 0 20000 [m] = true then namesB (nrB qs m) ps else []) else []
def donE (ps : List Dg) (qs : Pts) (m : Int) : Int := if (validDs ps && pathB qs) = true then (if inB 0 20000 [m] = true then 0 else 2) else 1
theorem don_no {ps : List Dg} {qs : Pts} {m : Int} (h : (validDs ps && pathB qs) = false) : donN ps qs m = [] ∧ donE ps qs m = 1 := by unfold donN donE; rw [h]; exact ⟨rfl, rfl⟩
theorem don_out {ps : List Dg} {qs : Pts} {m : Int} (h : (validDs ps && pathB qs) = true) (k : inB 0 20000 [m] = false) : donN ps qs m = [] ∧ donE ps qs m = 2 := by unfold donN donE; rw [h, k]; exact ⟨rfl, rfl⟩
theorem don_in {ps : List Dg} {qs : Pts} {m : Int} (h : (validDs ps && pathB qs) = true) (k : inB 0 20000 [m] = true) : donN ps qs m = namesB (nrB qs m) ps ∧ donE ps qs m = 0 := by unfold donN donE; rw [h, k]; exact ⟨rfl, rfl⟩
theorem donN_len (ps : List Dg) (qs : Pts) (m : Int) : (donN ps qs m).length ≤ ps.length := by
  unfold donN
  split
  · split
    · exact namesB_len _ _
    · simp
  · simp
theorem margin_any (m : Int) (w : World) :
    Calls Try.prog 76 #[.int .i64 m] w fun e w' => e = .returned (.bool (inB 0 20000 [m])) ∧ Below w.heap.size w w' := by
  have HW := Lib.hid (within_any 0 20000 _ [m] _ (ints_one_at w m w.heap.size rfl))
  generalize inB 0 20000 [m] = r at *
  go_enter Try.func76, Try.ntmps76
  go_wp2_with (go_at_call 56; (refine HW.out.mono ?_); rintro e w1 ⟨rfl, rfl⟩)
  go_ret
  exact ⟨rfl, by go_grown⟩
set_option maxRecDepth 100000 in
set_option maxHeartbeats 1000000 in
theorem don1_any (d : Dg) (qv : Value) (qs : Pts) (m : Int) (A M : Nat) (w : World) (hp : 1 ≤ qs.length) (h64 : qs.length ≤ 64) (hz : 1 ≤ d.2.2.2 ∧ d.2.2.2 ≤ 20000) (hq : PtsC w qv qs) (hA : w.cell? ⟨A, 0, none⟩ = some qv) (hM : w.cell? ⟨M, 0, none⟩ = some (.int .i64 m)) :
    Calls Try.prog 77 #[.agg #[.string d.1, .int .i64 d.2.1, .int .i64 d.2.2.1, .int .i64 d.2.2.2], .pointer (some ⟨A, 0, none⟩), .pointer (some ⟨M, 0, none⟩)] w fun e w' => e = .returned (.bool (nrB qs m d)) ∧ Below w.heap.size w w' := by
  have HC := Lib.hid (fun w' h => clear_any d qv qs w' hp h64 hz h)
  have HV := Lib.hid (show nrB qs m d = decide (clrV d qs < m) from rfl)
  generalize clrV d qs = R at *
  rw [HV.out]
  clear HV
  obtain ⟨a, c, rfl⟩ := pts_len hq.1
  obtain ⟨s, x, y, z⟩ := d
  simp only at HC hz ⊢
  have ab := (Below.refl w.heap.size w).alloc (Nat.le_refl _) (.cells #[.string s, .int .i64 x, .int .i64 y, .int .i64 z] 44)
  obtain ⟨S, hcl, hS0, kR⟩ := clxG12d (w := w.alloc (.cells #[.string s, .int .i64 x, .int .i64 y, .int .i64 z] 44)) (fun w' => DgAt w' w.heap.size 0 (s, x, y, z) ∧ w'.cell? ⟨A, 0, none⟩ = some (.slice a qs.length c) ∧ w'.cell? ⟨M, 0, none⟩ = some (.int .i64 m) ∧ PtsC w' (.slice a qs.length c) qs ∧ Below w.heap.size w w') (fun _ _ ⟨x0, x1, x2, x3, x4⟩ hb => ⟨x0.below hb, cell_below x1 hb, cell_below x2 hb, x3.below hb, Below.next x4 hb⟩) ⟨DgAt.new (w := w) (T := 44) (s, x, y, z) w.heap.size rfl, cell_below hA ab, cell_below hM ab, hq.below ab, ab⟩
  have m0 := fun p : Clx S => (kR p).1.1
  have m1 := fun p : Clx S => (kR p).1.2.1
  have m2 := fun p : Clx S => (kR p).1.2.2.1
  have m3 := fun p : Clx S => (kR p).1.2.2.2
  have m4 := fun p : Clx S => (kR p).2.1
  have m5 := fun p : Clx S => (kR p).2.2.1
  simp only [Nat.zero_add] at m0 m1 m2 m3
  have KR := Lib.hid kR
  have hnS : Nonempty (Clx S) := ⟨⟨_, hS0⟩⟩
  clear kR ab hA hM hq
  go_enter Try.func77, Try.ntmps77
  go_wp2_with (fail)
  refine wp_region_clx S (by kernel_rfl) (by kernel_rfl) hS0 ?_
  repeat (go_big_quiet_step ((go_at_call 73; exact Clx.call hcl _ (HC.out _ (KR.out _).2.2.2.1))))
  refine wpQuiet_nil ?_
  intro _ hw'
  obtain ⟨p, rfl⟩ := hw'
  have HB := Lib.hid (KR.out p).2.2.2.2
  go_wp2
  go_ret
  exact ⟨rfl, HB.out⟩
set_option maxRecDepth 100000 in
set_option maxHeartbeats 4000000 in
theorem dangerson_any (sv qv : Value) (ps : List Dg) (qs : Pts) (m : Int) (w : World) (hl : ps.length ≤ 1048576) (hsz : ∀ i, i < ps.length → (ps.getD i dg0).1.size ≤ maxLen) (hs : DgAre w sv ps) (hq : PtsC w qv qs) :
    Calls Try.prog 43 #[sv, qv, .int .i64 m] w (NamRet (donN ps qs m) (donE ps qs m) w) := by
  have HV := fun w' h => validdgs_any sv ps w' hl hsz h
  have HO := fun w' (h : PtsC w' qv qs) => ispath_any qv qs w' h.1
  have HM := fun w' => margin_any m w'
  have HG := Lib.hid hs
  have HQ := Lib.hid hq
  obtain ⟨a, c, rfl, _⟩ := hs
  obtain ⟨a2, c2, rfl⟩ := pts_len hq.1
  unfold NamRet
  cases hk : validDs ps
  · rw [hk] at HV
    have HV := Lib.hid HV
    obtain ⟨e1, e2⟩ := don_no (m := m) (show (validDs ps && pathB qs) = false by rw [hk]; rfl)
    rw [e1, e2]
    clear hk HO HM e1 e2 hq
    go_enter Try.func43, Try.ntmps43
    go_wp2_with (go_at_call 26; (refine (HV.out _ (HG.out.below (by go_grown))).mono ?_); rintro e w1 ⟨rfl, hb⟩; have AC := Lib.hid (Below.next (a := w) (by go_grown) hb); clear hb)
    refine bodyPost_ret (v := .tuple #[.slice none 0 0, .int .i64 1]) (by simp [results, Try.results43, go_sem, *]) rfl ⟨_, rfl, OwnSO.none _ _, AC.out⟩
  · rw [hk] at HV
    have HV := Lib.hid HV
    cases hp : pathB qs
    · rw [hp] at HO
      have HO := Lib.hid HO
      obtain ⟨e1, e2⟩ := don_no (m := m) (show (validDs ps && pathB qs) = false by rw [hp, Bool.and_false])
      rw [e1, e2]
      clear hk hp HM e1 e2 hq
      go_enter Try.func43, Try.ntmps43
      go_wp2_with (first
        | (go_at_call 26; (refine (HV.out _ (HG.out.below (by go_grown))).mono ?_); rintro e w1 ⟨rfl, hb⟩; have p0 := cell_below (a := ⟨w.heap.size, 0, none⟩) (v := .slice a2 qs.length c2) (by go_cell) hb; have AC := Lib.hid (Below.next (a := w) (by go_grown) hb); clear hb)
        | (go_at_call 72; (refine (HO.out _ (HQ.out.below AC.out)).mono ?_); rintro e w2 ⟨rfl, hb⟩; have AC2 := Lib.hid (Below.next AC.out hb); clear hb))
      refine bodyPost_ret (v := .tuple #[.slice none 0 0, .int .i64 1]) (by simp [results, Try.results43, go_sem, *]) rfl ⟨_, rfl, OwnSO.none _ _, AC2.out⟩
    · rw [hp] at HO
      have HO := Lib.hid HO
      have hboth : (validDs ps && pathB qs) = true := by rw [hk, hp]; rfl
      cases hm : inB 0 20000 [m]
      · rw [hm] at HM
        have HM := Lib.hid HM
        obtain ⟨e1, e2⟩ := don_out hboth hm
        rw [e1, e2]
        clear hk hp hm hboth e1 e2 hq
        go_enter Try.func43, Try.ntmps43
        go_wp2_with (first
          | (go_at_call 26; (refine (HV.out _ (HG.out.below (by go_grown))).mono ?_); rintro e w1 ⟨rfl, hb⟩; have p0 := cell_below (a := ⟨w.heap.size, 0, none⟩) (v := .slice a2 qs.length c2) (by go_cell) hb; have p1 := cell_below (a := ⟨w.heap.size + 1, 0, none⟩) (v := .int .i64 m) (by go_cell) hb; have AC := Lib.hid (Below.next (a := w) (by go_grown) hb); clear hb)
          | (go_at_call 72; (refine (HO.out _ (HQ.out.below AC.out)).mono ?_); rintro e w2 ⟨rfl, hb⟩; have q1 := cell_below p1 hb; have AC2 := Lib.hid (Below.next AC.out hb); clear hb)
          | (go_at_call 76; (refine (HM.out _).mono ?_); rintro e w3 ⟨rfl, hb⟩; have AC3 := Lib.hid (Below.next AC2.out hb); clear hb))
        refine bodyPost_ret (v := .tuple #[.slice none 0 0, .int .i64 2]) (by simp [results, Try.results43, go_sem, *]) rfl ⟨_, rfl, OwnSO.none _ _, AC3.out⟩
      · rw [hm] at HM
        have HM := Lib.hid HM
        obtain ⟨e1, e2⟩ := don_in hboth hm
        rw [e1, e2]
        obtain ⟨p1', p2', p3'⟩ := pathB_parts hp
        obtain ⟨_, hok⟩ := validDs_parts hk
        have HD := Lib.hid (fun i (hi : i < ps.length) (A M : Nat) w' h0 h1 h2 => don1_any (ps.getD i dg0) (.slice a2 qs.length c2) qs m A M w' p1' p2' (by have h := okD_parts (hok i hi); exact ⟨h.2.2.2.1, h.2.2.2.2⟩) h0 h1 h2)
        have HN := Lib.hid (fun w' h H => nameson_any (.slice a ps.length c) ps (nrB qs m) w.heap.size (w.heap.size + 1) w' hl h H)
        clear hk hp hm hboth e1 e2 hq p1' p2' p3' hok
        go_enter Try.func43, Try.ntmps43
        go_wp2_with (first
          | (go_at_call 26; (refine (HV.out _ (HG.out.below (by go_grown))).mono ?_); rintro e w1 ⟨rfl, hb⟩; have p0 := cell_below (a := ⟨w.heap.size, 0, none⟩) (v := .slice a2 qs.length c2) (by go_cell) hb; have p1 := cell_below (a := ⟨w.heap.size + 1, 0, none⟩) (v := .int .i64 m) (by go_cell) hb; have AC := Lib.hid (Below.next (a := w) (by go_grown) hb); clear hb)
          | (go_at_call 72; (refine (HO.out _ (HQ.out.below AC.out)).mono ?_); rintro e w2 ⟨rfl, hb⟩; have q0 := cell_below p0 hb; have q1 := cell_below p1 hb; have AC2 := Lib.hid (Below.next AC.out hb); clear hb)
          | (go_at_call 76; (refine (HM.out _).mono ?_); rintro e w3 ⟨rfl, hb⟩; have P0 := Lib.hid (cell_below q0 hb); have P1 := Lib.hid (cell_below q1 hb); have AC3 := Lib.hid (Below.next AC2.out hb); clear hb p0 p1 q0 q1)
          | (go_at_call 67; (refine (HN.out _ (HG.out.below AC3.out) (fun i hi w' hb => HD.out i hi _ _ w' (HQ.out.below (Below.next AC3.out hb)) (cell_below P0.out hb) (cell_below P1.out hb))).mono ?_); rintro e w4 ⟨v, rfl, ho, hb⟩; have O4 := Lib.hid (show OwnSO w4 w.heap.size v (namesB (nrB qs m) ps) from ho.mono AC3.out.size); have AC4 := Lib.hid (Below.next AC3.out hb); clear hb ho))
        refine bodyPost_ret (v := .tuple #[v, .int .i64 0]) (by simp [results, Try.results43, go_sem, *]) rfl ⟨_, rfl, O4.out, AC4.out⟩
end Go.Proofs.Ythccbipjmheoaaa
