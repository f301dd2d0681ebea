/- A valid list of dangers: pure, the program's test, the model's. A valid list of dangers: both words whole. -/
import Derived.Test.YthccbipjmheoaaaDgrX
import Derived.WalkLawsBesides
namespace Go.Proofs.Ythccbipjmheoaaa
open Go.ChangeShapes Go.WideShapes Go.ChangeAt Go.RowKit Pm

theorem bl_total : ∀ x y : List UInt8, Op.bytesLess y x = !(Op.bytesLess x y || x == y)
  | [], [] => by simp [Op.bytesLess]
  | [], _ :: _ => by simp [Op.bytesLess]
  | _ :: _, [] => by simp [Op.bytesLess]
  | a :: x, b :: y => by
    have ih := bl_total x y
    simp only [Op.bytesLess, ih]
    rcases Nat.lt_trichotomy a.toNat b.toNat with h | h | h
    · have h1 : a < b := h
      have h2 : ¬ b < a := by intro h'; have : b.toNat < a.toNat := h'; omega
      have h3 : ¬ b = a := by intro h'; subst h'; exact h2 h1
      have h4 : ¬ a = b := fun e => h3 e.symm
      simp [h1, h2, h3]
    · have h4 : a = b := UInt8.toNat_inj.1 h
      subst h4
      have h2 : ¬ a < a := by intro h'; have : a.toNat < a.toNat := h'; omega
      simp [h2]
    · have h1 : b < a := h
      have h2 : ¬ a < b := by intro h'; have : a.toNat < b.toNat := h'; omega
      have h3 : ¬ a = b := by intro h'; subst h'; exact h2 h1
      simp [h1, h2, h3]
/-- Is the name of one before that of another? -/
def ltN (a b : ByteArray) : Bool := Op.bytesLess a.toList b.toList
/-- Is the i-th of a list valid, behind the one before? -/
def goodAt (ps : List Dg) (i : Nat) : Bool := okD (ps.getD i dg0) && (i == 0 || ltN (ps.getD (i - 1) dg0).1 (ps.getD i dg0).1)
/-- Is a list of dangers valid? -/
def validDs (ps : List Dg) : Bool := decide (ps.length ≤ 24) && (List.range ps.length).all (goodAt ps)
theorem dgs_upto (ps : List Dg) (k : Nat) (h : ∀ i, i < k → goodAt ps i = true) (hk : ps.length ≤ k) : (List.range ps.length).all (goodAt ps) = true := by
  rw [List.all_eq_true]
  intro i hi
  exact h i (by have := List.mem_range.1 hi; omega)
theorem dgs_bad (ps : List Dg) (k : Nat) (hk : k < ps.length) (h : goodAt ps k = false) : (List.range ps.length).all (goodAt ps) = false := by
  rw [← Bool.not_eq_true, List.all_eq_true]
  intro hall
  have := hall k (List.mem_range.2 hk)
  rw [h] at this
  cases this
theorem validDs_parts {ps : List Dg} (h : validDs ps = true) : ps.length ≤ 24 ∧ ∀ i, i < ps.length → okD (ps.getD i dg0) = true := by
  simp only [validDs, Bool.and_eq_true, decide_eq_true_eq] at h
  refine ⟨h.1, fun i hi => ?_⟩
  have := List.all_eq_true.1 h.2 i (List.mem_range.2 hi)
  unfold goodAt at this
  simp only [Bool.and_eq_true] at this
  exact this.1
theorem clxG12o {w : World} (R : World → Prop) (hR : ∀ w1 w2, R w1 → Below w1.heap.size w1 w2 → R w2) (h : R w) : ∃ S : World → Prop, (∀ w1 w2, S w1 → Below w1.heap.size w1 w2 → S w2) ∧ S w.drew ∧ ∀ p : Clx S, R p.v :=
  ⟨R, hR, hR _ _ h (Below.refl _ _).drew, fun p => p.h⟩
theorem dgname_any (s : ByteArray) (x y z : Int) (w : World) :
    Calls Try.prog 59 #[.agg #[.string s, .int .i64 x, .int .i64 y, .int .i64 z]] w fun e w' => e = .returned (.string s) ∧ Below w.heap.size w w' := by
  go_enter Try.func59, Try.ntmps59
  go_wp2
  go_ret
  exact ⟨rfl, by go_grown⟩
set_option maxRecDepth 100000 in
set_option maxHeartbeats 4000000 in
theorem isord_any (sv : Value) (ps : List Dg) (w : World) (hl : ps.length ≤ 1048576) (hsz : ∀ i, i < ps.length → (ps.getD i dg0).1.size ≤ maxLen) (hs : DgAre w sv ps) :
    Calls Try.prog 58 #[sv, .int .i64 24, .func (.func 22) #[] #[], .func (.func 59) #[] #[]] w fun e w' => e = .returned (.bool (validDs ps)) ∧ Below w.heap.size w w' := by
  obtain ⟨a, cap, rfl, _, h⟩ := hs
  by_cases h24 : ps.length ≤ 24
  · have h242 : ¬ (24 : Int) < (ps.length : Int) := by omega
    rcases h with rfl | ⟨b, off, rfl, hc⟩
    · have hA := Lib.hid (show validDs [] = true from rfl)
      go_enter Try.func58, Try.ntmps58
      go_wp2
      go_rounds 1
      go_ret
      exact ⟨retB hA.out.symm, Below.refl _ _⟩
    · have HC := Lib.hid hc
      have hVD : validDs ps = (List.range ps.length).all (goodAt ps) := by unfold validDs; simp [h24]
      have HVD := Lib.hid hVD
      clear hc hVD
      go_enter Try.func58, Try.ntmps58
      go_wp2_with (fail)
      go_loopw [17] (fun i wr => ∃ k : Nat, k ≤ ps.length ∧ i = .int .i64 k ∧ (∀ j, j < k → goodAt ps j = true) ∧ Below w.heap.size w wr) (fun i _ => ps.length - (intOf i).toNat)
      case atStart => exact ⟨0, Nat.zero_le _, rfl, fun j hj => by omega, Below.refl _ _⟩
      case round =>
        obtain ⟨k, hk, rfl, hall, hbel⟩ := hrel
        have HALL := Lib.hid hall
        have HB := Lib.hid hbel
        clear hall
        by_cases hlt : k < ps.length
        · have hkn : (k : Int) < (ps.length : Int) := by omega
          have c0 := cell_below (HC.out k hlt).1 hbel
          have c1 := cell_below (HC.out k hlt).2.1 hbel
          have c2 := cell_below (HC.out k hlt).2.2.1 hbel
          have c3 := cell_below (HC.out k hlt).2.2.2 hbel
          have hs1 := hsz k hlt
          have HSTEP := Lib.hid (show goodAt ps k = true → ∀ j, j < k + 1 → goodAt ps j = true from fun hg j hj => by
            by_cases h : j < k
            · exact HALL.out j h
            · obtain rfl : j = k := by omega
              exact hg)
          have HBAD := Lib.hid (show goodAt ps k = false → validDs ps = false from fun hg => by rw [HVD.out]; exact dgs_bad ps k hlt hg)
          have HG := Lib.hid (show goodAt ps k = (okD (ps.getD k dg0) && (k == 0 || ltN (ps.getD (k - 1) dg0).1 (ps.getD k dg0).1)) from rfl)
          have hprev : 0 < k → wr.cell? ⟨b, off + (k - 1) * 4, none⟩ = some (.string (ps.getD (k - 1) dg0).1) ∧ wr.cell? ⟨b, off + (k - 1) * 4 + 1, none⟩ = some (.int .i64 (ps.getD (k - 1) dg0).2.1) ∧ wr.cell? ⟨b, off + (k - 1) * 4 + 2, none⟩ = some (.int .i64 (ps.getD (k - 1) dg0).2.2.1) ∧ wr.cell? ⟨b, off + (k - 1) * 4 + 3, none⟩ = some (.int .i64 (ps.getD (k - 1) dg0).2.2.2) := fun _ => ⟨cell_below (HC.out (k - 1) (by omega)).1 hbel, cell_below (HC.out (k - 1) (by omega)).2.1 hbel, cell_below (HC.out (k - 1) (by omega)).2.2.1 hbel, cell_below (HC.out (k - 1) (by omega)).2.2.2 hbel⟩
          obtain ⟨V, hV⟩ : ∃ V, V = okD (ps.getD k dg0) := ⟨_, rfl⟩
          rw [← hV] at HG
          have H1 := Lib.hid (fun w' => validdg_any (ps.getD k dg0).1 (ps.getD k dg0).2.1 (ps.getD k dg0).2.2.1 (ps.getD k dg0).2.2.2 w' hs1)
          rw [show okD ((ps.getD k dg0).1, (ps.getD k dg0).2.1, (ps.getD k dg0).2.2.1, (ps.getD k dg0).2.2.2) = V from hV.symm] at H1
          clear hV hs1
          generalize (ps.getD k dg0).1 = s at *
          generalize (ps.getD k dg0).2.1 = x at *
          generalize (ps.getD k dg0).2.2.1 = y at *
          generalize (ps.getD k dg0).2.2.2 = z at *
          generalize (ps.getD (k - 1) dg0).1 = s' at *
          generalize (ps.getD (k - 1) dg0).2.1 = x' at *
          generalize (ps.getD (k - 1) dg0).2.2.1 = y' at *
          generalize (ps.getD (k - 1) dg0).2.2.2 = z' at *
          have N1 := Lib.hid (fun w' => dgname_any s x y z w')
          have N2 := Lib.hid (fun w' => dgname_any s' x' y' z' w')
          have DN := DgAt.new (w := wr) (T := 44) (s, x, y, z) wr.heap.size rfl
          have AB := (Below.refl wr.heap.size wr).alloc (Nat.le_refl _) (.cells #[.string s, .int .i64 x, .int .i64 y, .int .i64 z] 44)
          simp only at DN
          obtain ⟨S, hcl, hS0, kR⟩ := clxG12o (w := wr.alloc (.cells #[.string s, .int .i64 x, .int .i64 y, .int .i64 z] 44)) (fun w' => DgAt w' wr.heap.size 0 (s, x, y, z) ∧ (0 < k → DgAt w' b (off + (k - 1) * 4) (s', x', y', z')) ∧ Below wr.heap.size wr w') (fun _ _ ⟨x0, x1, x2⟩ hb => ⟨x0.below hb, fun h => (x1 h).below hb, Below.next x2 hb⟩) ⟨DN, fun h => (show DgAt wr b (off + (k - 1) * 4) (s', x', y', z') from hprev h).below AB, AB⟩
          have m0 := fun p : Clx S => (kR p).1.1
          have m1 := fun p : Clx S => (kR p).1.2.1
          have m2 := fun p : Clx S => (kR p).1.2.2.1
          have m3 := fun p : Clx S => (kR p).1.2.2.2
          simp only [Nat.zero_add] at m0 m1 m2 m3
          have KR := Lib.hid kR
          have hnS : Nonempty (Clx S) := ⟨⟨_, hS0⟩⟩
          clear kR DN AB hprev hbel
          cases V
          · go_wp2_with (fail)
            refine wp_region_clx S (by kernel_rfl) (by kernel_rfl) hS0 ?_
            repeat (go_big_quiet_step ((go_at_call 22; exact Clx.call hcl _ (H1.out _))))
            refine wpQuiet_nil ?_
            intro _ hw'
            obtain ⟨p, rfl⟩ := hw'
            have HB2 := Lib.hid (Below.next HB.out (KR.out p).2.2)
            go_wp2
            go_ret
            exact ⟨retB (HBAD.out (by rw [HG.out]; rfl)).symm, HB2.out⟩
          · by_cases hk0 : k = 0
            · have hk1 : ¬ 0 < k := by omega
              have hk2 : decide (0 < k) = false := decide_eq_false hk1
              have HGT := Lib.hid (show goodAt ps k = true by rw [HG.out, hk0]; rfl)
              clear hk0
              go_wp2_with (fail)
              refine wp_region_clx S (by kernel_rfl) (by kernel_rfl) hS0 ?_
              repeat (go_big_quiet_step ((go_at_call 22; exact Clx.call hcl _ (H1.out _))))
              refine wpQuiet_nil ?_
              intro _ hw'
              obtain ⟨p, rfl⟩ := hw'
              have HB2 := Lib.hid (Below.next HB.out (KR.out p).2.2)
              go_wp2_with (fail)
              go_roundw
              case rel => exact ⟨k + 1, by omega, by go_num, HSTEP.out HGT.out, HB2.out⟩
              case measure => simp [intOf]; omega
            · have hk1 : 0 < k := by omega
              have hk2 : decide (0 < k) = true := decide_eq_true hk1
              have hkm : (k : Int) - 1 = ((k - 1 : Nat) : Int) := by omega
              have hkl : ((k - 1 : Nat) : Int) < (ps.length : Int) := by omega
              have q0 := fun p : Clx S => ((KR.out p).2.1 (by omega)).1
              have q1 := fun p : Clx S => ((KR.out p).2.1 (by omega)).2.1
              have q2 := fun p : Clx S => ((KR.out p).2.1 (by omega)).2.2.1
              have q3 := fun p : Clx S => ((KR.out p).2.1 (by omega)).2.2.2
              have HT := Lib.hid (bl_total s.toList s'.toList)
              have HG2 := Lib.hid (show goodAt ps k = ltN s' s by rw [HG.out]; simp [hk0])
              have hcase : (Op.bytesLess s.toList s'.toList = false ∧ (s.toList == s'.toList) = false) ∨ Op.bytesLess s.toList s'.toList = true ∨ (Op.bytesLess s.toList s'.toList = false ∧ (s.toList == s'.toList) = true) := by
                cases Op.bytesLess s.toList s'.toList <;> cases (s.toList == s'.toList) <;> simp
              rcases hcase with ⟨hb1, hb2⟩ | hb1 | ⟨hb1, hb2⟩
              · have HGT := Lib.hid (show goodAt ps k = true by rw [HG2.out]; unfold ltN; rw [HT.out, hb1, hb2]; rfl)
                clear hk0
                go_wp2_with (fail)
                refine wp_region_clx S (by kernel_rfl) (by kernel_rfl) hS0 ?_
                repeat (go_big_quiet_step (first
                  | (go_at_call 22; exact Clx.call hcl _ (H1.out _))
                  | (go_at_call 59; first | exact Clx.call hcl _ (N1.out _) | exact Clx.call hcl _ (N2.out _))))
                refine wpQuiet_nil ?_
                intro _ hw'
                obtain ⟨p, rfl⟩ := hw'
                have HB2 := Lib.hid (Below.next HB.out (KR.out p).2.2)
                go_wp2_with (fail)
                go_roundw
                case rel => exact ⟨k + 1, by omega, by go_num, HSTEP.out HGT.out, HB2.out⟩
                case measure => simp [intOf]; omega
              · have HGF := Lib.hid (show validDs ps = false from HBAD.out (by rw [HG2.out]; unfold ltN; rw [HT.out, hb1]; rfl))
                clear hk0
                go_wp2_with (fail)
                refine wp_region_clx S (by kernel_rfl) (by kernel_rfl) hS0 ?_
                repeat (go_big_quiet_step (first
                  | (go_at_call 22; exact Clx.call hcl _ (H1.out _))
                  | (go_at_call 59; first | exact Clx.call hcl _ (N1.out _) | exact Clx.call hcl _ (N2.out _))))
                refine wpQuiet_nil ?_
                intro _ hw'
                obtain ⟨p, rfl⟩ := hw'
                have HB2 := Lib.hid (Below.next HB.out (KR.out p).2.2)
                go_wp2_with (fail)
                go_ret
                exact ⟨retB HGF.out.symm, HB2.out⟩
              · have HGF := Lib.hid (show validDs ps = false from HBAD.out (by rw [HG2.out]; unfold ltN; rw [HT.out, hb1, hb2]; rfl))
                clear hk0
                go_wp2_with (fail)
                refine wp_region_clx S (by kernel_rfl) (by kernel_rfl) hS0 ?_
                repeat (go_big_quiet_step (first
                  | (go_at_call 22; exact Clx.call hcl _ (H1.out _))
                  | (go_at_call 59; first | exact Clx.call hcl _ (N1.out _) | exact Clx.call hcl _ (N2.out _))))
                refine wpQuiet_nil ?_
                intro _ hw'
                obtain ⟨p, rfl⟩ := hw'
                have HB2 := Lib.hid (Below.next HB.out (KR.out p).2.2)
                go_wp2_with (fail)
                go_ret
                exact ⟨retB HGF.out.symm, HB2.out⟩
        · have HV := Lib.hid (show validDs ps = true by rw [HVD.out]; exact dgs_upto ps k HALL.out (by omega))
          clear hbel
          go_wp2
          go_ret
          exact ⟨retB HV.out.symm, HB.out⟩
  · have hA := Lib.hid (show validDs ps = false by unfold validDs; simp [h24])
    have h642 : (24 : Int) < (ps.length : Int) := by omega
    clear h24 h
    go_enter Try.func58, Try.ntmps58
    go_wp2
    go_ret
    exact ⟨retB hA.out.symm, by go_grown⟩
end Go.Proofs.Ythccbipjmheoaaa
namespace Go.Proofs.Ythccbipjmheoaaa
open Go.ChangeShapes Go.WideShapes Go.ChangeAt Go.RowKit Pm

theorem validdgs_any (sv : Value) (ps : List Dg) (w : World) (hl : ps.length ≤ 1048576) (hsz : ∀ i, i < ps.length → (ps.getD i dg0).1.size ≤ maxLen) (hs : DgAre w sv ps) :
    Calls Try.prog 26 #[sv] w fun e w' => e = .returned (.bool (validDs ps)) ∧ Below w.heap.size w w' := by
  have HI := Lib.hid (isord_any sv ps w hl hsz hs)
  obtain ⟨a, cap, rfl, _⟩ := hs
  generalize validDs ps = r at *
  go_enter Try.func26, Try.ntmps26
  go_wp2_with (go_at_call 58; refine HI.out.mono ?_; rintro e w1 ⟨rfl, hb⟩; have AC := Lib.hid hb; clear hb)
  go_ret
  exact ⟨rfl, AC.out⟩
set_option maxRecDepth 100000 in
set_option maxHeartbeats 4000000 in
theorem sokdgs_any (sv : Value) (ps : List Dg) (w : World) (hl : ps.length ≤ 1048576) (hsz : ∀ i, i < ps.length → (ps.getD i dg0).1.size ≤ maxLen) (hs : DgAre w sv ps) :
    Calls Try.prog 57 #[sv] w fun e w' => e = .returned (.bool (validDs ps)) ∧ Below w.heap.size w w' := by
  obtain ⟨a, cap, rfl, _, h⟩ := hs
  rcases h with rfl | ⟨b, off, rfl, hc⟩
  · have hA := Lib.hid (show validDs [] = true from rfl)
    go_enter Try.func57, Try.ntmps57
    go_wp2
    go_rounds 1
    go_ret
    exact ⟨retB hA.out.symm, Below.refl _ _⟩
  · have HC := Lib.hid hc
    have HVD := Lib.hid (show validDs ps = (decide (ps.length ≤ 24) && (List.range ps.length).all (goodAt ps)) from rfl)
    clear hc
    go_enter Try.func57, Try.ntmps57
    go_wp2_with (fail)
    go_loopw [3] (fun i wr => ∃ k : Nat, k ≤ ps.length ∧ i = .int .i64 k ∧ (∀ j, j < k → goodAt ps j = true) ∧ Below w.heap.size w wr) (fun i _ => ps.length - (intOf i).toNat)
    case atStart => exact ⟨0, Nat.zero_le _, rfl, fun j hj => by omega, Below.refl _ _⟩
    case round =>
      obtain ⟨k, hk, rfl, hall, hbel⟩ := hrel
      have HALL := Lib.hid hall
      have HB := Lib.hid hbel
      clear hall
      by_cases hlt : k < ps.length
      · have hkn : (k : Int) < (ps.length : Int) := by omega
        have D0 : DgAt wr b (off + k * 4) (ps.getD k dg0) := ⟨cell_below (HC.out k hlt).1 hbel, cell_below (HC.out k hlt).2.1 hbel, cell_below (HC.out k hlt).2.2.1 hbel, cell_below (HC.out k hlt).2.2.2 hbel⟩
        have D1 : 0 < k → DgAt wr b (off + (k - 1) * 4) (ps.getD (k - 1) dg0) := fun _ => ⟨cell_below (HC.out (k - 1) (by omega)).1 hbel, cell_below (HC.out (k - 1) (by omega)).2.1 hbel, cell_below (HC.out (k - 1) (by omega)).2.2.1 hbel, cell_below (HC.out (k - 1) (by omega)).2.2.2 hbel⟩
        have hs1 := hsz k hlt
        have HSTEP := Lib.hid (show goodAt ps k = true → ∀ j, j < k + 1 → goodAt ps j = true from fun hg j hj => by
          by_cases h : j < k
          · exact HALL.out j h
          · obtain rfl : j = k := by omega
            exact hg)
        have HBAD := Lib.hid (show goodAt ps k = false → validDs ps = false from fun hg => by rw [HVD.out, dgs_bad ps k hlt hg, Bool.and_false])
        have HG := Lib.hid (show goodAt ps k = (okD (ps.getD k dg0) && (k == 0 || ltN (ps.getD (k - 1) dg0).1 (ps.getD k dg0).1)) from rfl)
        obtain ⟨V, hV⟩ : ∃ V, V = okD (ps.getD k dg0) := ⟨_, rfl⟩
        rw [← hV] at HG
        have H1 := Lib.hid (fun w' h => sone_any b (off + k * 4) (ps.getD k dg0) w' hs1 h)
        rw [← hV] at H1
        clear hV hs1
        generalize ps.getD k dg0 = q at *
        generalize ps.getD (k - 1) dg0 = q' at *
        obtain ⟨S, hcl, hS0, kR⟩ := clxG12o (w := wr) (fun w' => DgAt w' b (off + k * 4) q ∧ (0 < k → DgAt w' b (off + (k - 1) * 4) q') ∧ Below w.heap.size w w') (fun _ _ ⟨x0, x1, x2⟩ hb => ⟨x0.below hb, fun h => (x1 h).below hb, Below.next x2 hb⟩) ⟨D0, D1, hbel⟩
        have m0 := fun p : Clx S => (kR p).1.1
        have KR := Lib.hid kR
        have hnS : Nonempty (Clx S) := ⟨⟨_, hS0⟩⟩
        clear kR D0 D1 hbel
        cases V
        · go_wp2_with (fail)
          refine wp_region_clx S (by kernel_rfl) (by kernel_rfl) hS0 ?_
          repeat (go_big_quiet_step ((go_at_call 54; exact Clx.call hcl _ (H1.out _ (KR.out _).1))))
          refine wpQuiet_nil ?_
          intro _ hw'
          obtain ⟨p, rfl⟩ := hw'
          have HB2 := Lib.hid (KR.out p).2.2
          go_wp2
          go_ret
          exact ⟨retB (HBAD.out (by rw [HG.out]; rfl)).symm, HB2.out⟩
        · by_cases hk0 : k = 0
          · have hk1 : ¬ 0 < k := by omega
            have hk2 : decide (0 < k) = false := decide_eq_false hk1
            have HGT := Lib.hid (show goodAt ps k = true by rw [HG.out, hk0]; rfl)
            clear hk0
            go_wp2_with (fail)
            refine wp_region_clx S (by kernel_rfl) (by kernel_rfl) hS0 ?_
            repeat (go_big_quiet_step ((go_at_call 54; exact Clx.call hcl _ (H1.out _ (KR.out _).1))))
            refine wpQuiet_nil ?_
            intro _ hw'
            obtain ⟨p, rfl⟩ := hw'
            have HB2 := Lib.hid (KR.out p).2.2
            go_wp2_with (fail)
            go_roundw
            case rel => exact ⟨k + 1, by omega, by go_num, HSTEP.out HGT.out, HB2.out⟩
            case measure => simp [intOf]; omega
          · have hk1 : 0 < k := by omega
            have hk2 : decide (0 < k) = true := decide_eq_true hk1
            have hkm : (k : Int) - 1 = ((k - 1 : Nat) : Int) := by omega
            have hkl : ((k - 1 : Nat) : Int) < (ps.length : Int) := by omega
            have q0 := fun p : Clx S => ((KR.out p).2.1 (by omega)).1
            have HG2 := Lib.hid (show goodAt ps k = Op.bytesLess q'.1.toList q.1.toList by rw [HG.out]; simp [hk0, ltN])
            clear hk0
            cases hb1 : Op.bytesLess q'.1.toList q.1.toList
            · have HGF := Lib.hid (show validDs ps = false from HBAD.out (by rw [HG2.out, hb1]))
              go_wp2_with (fail)
              refine wp_region_clx S (by kernel_rfl) (by kernel_rfl) hS0 ?_
              repeat (go_big_quiet_step ((go_at_call 54; exact Clx.call hcl _ (H1.out _ (KR.out _).1))))
              refine wpQuiet_nil ?_
              intro _ hw'
              obtain ⟨p, rfl⟩ := hw'
              have HB2 := Lib.hid (KR.out p).2.2
              go_wp2_with (fail)
              go_ret
              exact ⟨retB HGF.out.symm, HB2.out⟩
            · have HGT := Lib.hid (show goodAt ps k = true by rw [HG2.out, hb1])
              go_wp2_with (fail)
              refine wp_region_clx S (by kernel_rfl) (by kernel_rfl) hS0 ?_
              repeat (go_big_quiet_step ((go_at_call 54; exact Clx.call hcl _ (H1.out _ (KR.out _).1))))
              refine wpQuiet_nil ?_
              intro _ hw'
              obtain ⟨p, rfl⟩ := hw'
              have HB2 := Lib.hid (KR.out p).2.2
              go_wp2_with (fail)
              go_roundw
              case rel => exact ⟨k + 1, by omega, by go_num, HSTEP.out HGT.out, HB2.out⟩
              case measure => simp [intOf]; omega
      · have HV := Lib.hid (show decide ((ps.length : Int) ≤ 24) = validDs ps by rw [HVD.out, dgs_upto ps k HALL.out (by omega), Bool.and_true, decide_eq_decide]; omega)
        clear hbel
        obtain rfl : k = ps.length := by omega
        go_wp2
        go_ret
        exact ⟨by simpa using HV.out, HB.out⟩
theorem svaliddgs_any (sv : Value) (ps : List Dg) (w : World) (hl : ps.length ≤ 1048576) (hsz : ∀ i, i < ps.length → (ps.getD i dg0).1.size ≤ maxLen) (hs : DgAre w sv ps) :
    Calls Try.prog 24 #[sv] w fun e w' => e = .returned (.bool (validDs ps)) ∧ Below w.heap.size w w' := by
  have HI := Lib.hid (sokdgs_any sv ps w hl hsz hs)
  obtain ⟨a, cap, rfl, _⟩ := hs
  generalize validDs ps = r at *
  go_enter Try.func24, Try.ntmps24
  go_wp2_with (go_at_call 57; refine HI.out.mono ?_; rintro e w1 ⟨rfl, hb⟩; have AC := Lib.hid hb; clear hb)
  go_ret
  exact ⟨rfl, AC.out⟩
end Go.Proofs.Ythccbipjmheoaaa
