/- The names of the dangers that have a property: the program's. DangersAt: the program's word whole, the model's. -/
import Derived.Test.YthccbipjmheoaaaClrX
import Derived.Test.YthccbipjmheoaaaOrdX
import Derived.Test.YthccbipjmheoaaaStp
namespace Go.Proofs.Ythccbipjmheoaaa
open Go.ChangeShapes Go.WideShapes Go.ChangeAt Go.RowKit Pm

/-- The names of those that have a property. -/
def namesB (f : Dg → Bool) (ps : List Dg) : List ByteArray := (ps.filter f).map (·.1)
theorem namesB_snoc (f : Dg → Bool) (ps : List Dg) (q : Dg) : namesB f (ps ++ [q]) = namesB f ps ++ (if f q then [q.1] else []) := by
  unfold namesB
  rw [List.filter_append, List.map_append]
  cases h : f q <;> simp [h]
theorem namesB_len (f : Dg → Bool) (ps : List Dg) : (namesB f ps).length ≤ ps.length := by
  unfold namesB
  rw [List.length_map]
  exact List.length_filter_le _ _
set_option maxRecDepth 100000 in
set_option maxHeartbeats 2000000 in
theorem namesat_any (sv : Value) (ps : List Dg) (f : Dg → Bool) (A : Nat) (w : World) (hl : ps.length ≤ 1048576) (hs : DgAre w sv ps)
    (H : ∀ i, i < ps.length → ∀ w', Below w.heap.size w w' → Calls Try.prog 68 #[.agg #[.string (ps.getD i dg0).1, .int .i64 (ps.getD i dg0).2.1, .int .i64 (ps.getD i dg0).2.2.1, .int .i64 (ps.getD i dg0).2.2.2], .pointer (some ⟨A, 0, none⟩)] w' fun e w'' => e = .returned (.bool (f (ps.getD i dg0))) ∧ Below w'.heap.size w' w'') :
    Calls Try.prog 67 #[sv, .func (.func 68) #[] #[.pointer (some ⟨A, 0, none⟩)]] w fun e w' => ∃ v, e = .returned v ∧ OwnSO w' w.heap.size v (namesB f ps) ∧ Below w.heap.size w w' := by
  obtain ⟨a, cap, rfl, _, h⟩ := hs
  rcases h with rfl | ⟨b, off, rfl, hc⟩
  · go_enter Try.func67, Try.ntmps67
    go_wp2
    go_rounds 1
    go_ret
    exact ⟨_, rfl, OwnSO.none _ _, Below.refl _ _⟩
  · have HC := Lib.hid hc
    have HH := Lib.hid H
    clear hc H
    go_enter Try.func67, Try.ntmps67
    go_wp2_with (fail)
    go_loopw [5, 10] (fun v i wr => ∃ k : Nat, k ≤ ps.length ∧ i = .int .i64 k ∧ OwnSO wr w.heap.size v (namesB f (ps.take k)) ∧ Below w.heap.size w wr) (fun _ i _ => ps.length - (intOf i).toNat)
    case atStart => exact ⟨0, Nat.zero_le _, rfl, OwnSO.none _ _, Below.refl _ _⟩
    case round =>
      obtain ⟨k, hk, rfl, hown, hbel⟩ := hrel
      have HOW := Lib.hid hown
      have HB := Lib.hid hbel
      clear hown
      by_cases hlt : k < ps.length
      · have hkn : (k : Int) < (ps.length : Int) := by omega
        have c0 := cell_below (HC.out k hlt).1 hbel
        have c1 := cell_below (HC.out k hlt).2.1 hbel
        have c2 := cell_below (HC.out k hlt).2.2.1 hbel
        have c3 := cell_below (HC.out k hlt).2.2.2 hbel
        have HS := Lib.hid (show namesB f (ps.take (k + 1)) = namesB f (ps.take k) ++ (if f (ps.getD k dg0) then [(ps.getD k dg0).1] else []) by rw [dg_take ps k hlt, namesB_snoc])
        have H1 := Lib.hid (HH.out k hlt)
        have hll : (namesB f (ps.take k)).length ≤ 1048577 := Nat.le_trans (namesB_len _ _) (by rw [List.length_take]; omega)
        have DN := DgAt.new (w := wr) (T := 44) (ps.getD k dg0) wr.heap.size rfl
        generalize namesB f (ps.take k) = L at *
        obtain ⟨V, hV⟩ : ∃ V, V = f (ps.getD k dg0) := ⟨_, rfl⟩
        rw [← hV] at H1 HS
        clear hV
        generalize ps.getD k dg0 = q at *
        obtain ⟨s, x, y, z⟩ := q
        simp only at c0 c1 c2 c3 H1 HS DN
        have DN := Lib.hid DN
        have HBA := Lib.hid (HB.out.alloc HB.out.size (.cells #[.string s, .int .i64 x, .int .i64 y, .int .i64 z] 44))
        clear hbel
        cases V
        · have HS2 := Lib.hid (show namesB f (ps.take (k + 1)) = L by rw [HS.out]; simp)
          go_wp2_with (go_at_call 68; refine (H1.out _ HBA.out).mono ?_; rintro e w2 ⟨rfl, hb⟩; have HO2 := Lib.hid ((HOW.out.below ((Below.refl _ _).alloc (Nat.le_refl _) _)).below hb); have HB2 := Lib.hid (Below.next HBA.out hb); clear hb)
          go_roundw
          case rel => exact ⟨k + 1, by omega, by go_num, by rw [HS2.out]; exact HO2.out, HB2.out⟩
          case measure => simp [intOf]; omega
        · have HS2 := Lib.hid (show namesB f (ps.take (k + 1)) = L ++ [s] by rw [HS.out]; simp)
          go_wp2_with (first
            | (go_at_call 68; refine (H1.out _ HBA.out).mono ?_; rintro e w2 ⟨rfl, hb⟩; have HO2 := Lib.hid ((HOW.out.below ((Below.refl _ _).alloc (Nat.le_refl _) _)).below hb); have HB2 := Lib.hid (Below.next HBA.out hb); have d0 := (DN.out.below hb).1; clear hb)
            | (at_builtin; (refine wpList_app_so rfl _ _ w.heap.size _ L s w _ _ HO2.out HB2.out (Nat.le_refl _) hll rfl rfl _ rfl rfl ?_)))
          intro v5 w5 h5 hb5
          have HO5 := Lib.hid h5
          have HB5 := Lib.hid hb5
          clear h5 hb5
          go_wp2
          go_roundw
          case rel => exact ⟨k + 1, by omega, by go_num, by rw [HS2.out]; exact HO5.out, HB5.out⟩
          case measure => simp [intOf]; omega
      · obtain rfl : k = ps.length := by omega
        have HO := Lib.hid (show OwnSO wr w.heap.size _ (namesB f ps) from by have := HOW.out; rw [List.take_of_length_le (Nat.le_refl _)] at this; exact this)
        clear hbel HOW
        go_wp2
        go_ret
        exact ⟨_, rfl, HO.out, HB.out⟩
theorem covers_any (s : ByteArray) (x y z : Int) (px py : Int) (w : World) :
    Calls Try.prog 69 #[.agg #[.string s, .int .i64 x, .int .i64 y, .int .i64 z], .agg #[.int .i64 px, .int .i64 py]] w fun e w' => e = .returned (.bool (decide (dstV (x, y) (px, py) ≤ z))) ∧ Below w.heap.size w w' := by
  have HD := Lib.hid (fun w' => distto_any s x y z (px, py) w')
  generalize dstV (x, y) (px, py) = G at *
  simp only at HD
  obtain ⟨S, hcl, hS0, kR⟩ := clxG12d (w := (w.alloc (.cells #[.string s, .int .i64 x, .int .i64 y, .int .i64 z] 44)).alloc (.cells #[.int .i64 px, .int .i64 py] 33)) (fun w' => DgAt w' w.heap.size 0 (s, x, y, z) ∧ w'.cell? ⟨w.heap.size + 1, 0, none⟩ = some (.int .i64 px) ∧ w'.cell? ⟨w.heap.size + 1, 1, none⟩ = some (.int .i64 py) ∧ Below w.heap.size w w') (fun _ _ ⟨x0, x1, x2, x3⟩ hb => ⟨x0.below hb, cell_below x1 hb, cell_below x2 hb, Below.next x3 hb⟩) ⟨(show DgAt (w.alloc (.cells #[.string s, .int .i64 x, .int .i64 y, .int .i64 z] 44)) w.heap.size 0 (s, x, y, z) from DgAt.new (w := w) (T := 44) (s, x, y, z) w.heap.size rfl).below ((Below.refl _ _).alloc (Nat.le_refl _) _), by go_cell, by go_cell, by go_grown⟩
  have m0 := fun p : Clx S => (kR p).1.1
  have m1 := fun p : Clx S => (kR p).1.2.1
  have m2 := fun p : Clx S => (kR p).1.2.2.1
  have m3 := fun p : Clx S => (kR p).1.2.2.2
  have m4 := fun p : Clx S => (kR p).2.1
  have m5 := fun p : Clx S => (kR p).2.2.1
  simp only [Nat.zero_add] at m0 m1 m2 m3
  have KR := Lib.hid kR
  have hnS : Nonempty (Clx S) := ⟨⟨_, hS0⟩⟩
  clear kR
  go_enter Try.func69, Try.ntmps69
  go_wp2_with (fail)
  refine wp_region_clx S (by kernel_rfl) (by kernel_rfl) hS0 ?_
  repeat (go_big_quiet_step ((go_at_call 99; exact Clx.call hcl _ (HD.out _))))
  refine wpQuiet_nil ?_
  intro _ hw'
  obtain ⟨p, rfl⟩ := hw'
  have HB := Lib.hid (KR.out p).2.2.2
  go_wp2
  go_ret
  exact ⟨rfl, HB.out⟩
/-- Does a danger cover a point? -/
noncomputable def covB (px py : Int) (q : Dg) : Bool := decide (dstV (q.2.1, q.2.2.1) (px, py) ≤ q.2.2.2)
theorem dat1_any (s : ByteArray) (x y z : Int) (px py : Int) (A : Nat) (w : World) (h0 : w.cell? ⟨A, 0, none⟩ = some (.int .i64 px)) (h1 : w.cell? ⟨A, 1, none⟩ = some (.int .i64 py)) :
    Calls Try.prog 68 #[.agg #[.string s, .int .i64 x, .int .i64 y, .int .i64 z], .pointer (some ⟨A, 0, none⟩)] w fun e w' => e = .returned (.bool (covB px py (s, x, y, z))) ∧ Below w.heap.size w w' := by
  have HD := Lib.hid (fun w' => covers_any s x y z px py w')
  have HV := Lib.hid (show covB px py (s, x, y, z) = decide (dstV (x, y) (px, py) ≤ z) from rfl)
  generalize decide (dstV (x, y) (px, py) ≤ z) = V at *
  rw [HV.out]
  clear HV
  have ab := (Below.refl w.heap.size w).alloc (Nat.le_refl _) (.cells #[.string s, .int .i64 x, .int .i64 y, .int .i64 z] 44)
  have k0 := cell_below h0 ab
  have k1 := cell_below h1 ab
  clear ab h0 h1
  go_enter Try.func68, Try.ntmps68
  go_wp2_with (go_at_call 69; refine (HD.out _).mono ?_; rintro e w2 ⟨rfl, hb⟩; have AC := Lib.hid (Below.next (a := w) (by go_grown) hb); clear hb)
  go_ret
  exact ⟨rfl, AC.out⟩
end Go.Proofs.Ythccbipjmheoaaa
namespace Go.Proofs.Ythccbipjmheoaaa
open Go.ChangeShapes Go.WideShapes Go.ChangeAt Go.RowKit Pm

/-- Is it asked of a valid list, and a valid point? -/
def datB (ps : List Dg) (px py : Int) : Bool := validDs ps && inB 0 200000 [px, py]
/-- The names at a place; the error. -/
noncomputable def datN (ps : List Dg) (px py : Int) : List ByteArray := if datB ps px py = true then namesB (covB px py) ps else []
def datE (ps : List Dg) (px py : Int) : Int := if datB ps px py = true then 0 else 1
theorem dat_no {ps : List Dg} {px py : Int} (h : datB ps px py = false) : datN ps px py = [] ∧ datE ps px py = 1 := by unfold datN datE; rw [h]; exact ⟨rfl, rfl⟩
theorem dat_in {ps : List Dg} {px py : Int} (h : datB ps px py = true) : datN ps px py = namesB (covB px py) ps ∧ datE ps px py = 0 := by unfold datN datE; rw [h]; exact ⟨rfl, rfl⟩
theorem datN_len (ps : List Dg) (px py : Int) : (datN ps px py).length ≤ ps.length := by
  unfold datN
  split
  · exact namesB_len _ _
  · simp
/-- An answer of names, with an error. -/
def NamRet (l : List ByteArray) (er : Int) (w : World) (e : Ending) (w' : World) : Prop := ∃ v, e = .returned (.tuple #[v, .int .i64 er]) ∧ OwnSO w' w.heap.size v l ∧ Below w.heap.size w w'
set_option maxRecDepth 100000 in
set_option maxHeartbeats 2000000 in
theorem dangersat_any (sv : Value) (ps : List Dg) (px py : Int) (w : World) (hl : ps.length ≤ 1048576) (hsz : ∀ i, i < ps.length → (ps.getD i dg0).1.size ≤ maxLen) (hs : DgAre w sv ps) :
    Calls Try.prog 33 #[sv, .agg #[.int .i64 px, .int .i64 py]] w (NamRet (datN ps px py) (datE ps px py) w) := by
  have HV := fun w' h => validdgs_any sv ps w' hl hsz h
  have HO := fun w' => ok_any px py w'
  have HN := Lib.hid (fun w' h H => namesat_any sv ps (covB px py) w.heap.size w' hl h H)
  have HG := Lib.hid hs
  have HD := Lib.hid (fun i (A : Nat) w' h0 h1 => dat1_any (ps.getD i dg0).1 (ps.getD i dg0).2.1 (ps.getD i dg0).2.2.1 (ps.getD i dg0).2.2.2 px py A w' h0 h1)
  obtain ⟨a, c, rfl, _⟩ := hs
  unfold NamRet
  cases hk : validDs ps
  · rw [hk] at HV
    have HV := Lib.hid HV
    obtain ⟨e1, e2⟩ := dat_no (show datB ps px py = false by unfold datB; rw [hk]; rfl)
    rw [e1, e2]
    clear hk HO e1 e2 HN HD
    go_enter Try.func33, Try.ntmps33
    go_wp2_with (go_at_call 26; (refine (HV.out _ (HG.out.below (by go_grown))).mono ?_); rintro e w1 ⟨rfl, hb⟩; have AC := Lib.hid (Below.next (a := w) (by go_grown) hb); clear hb)
    refine bodyPost_ret (v := .tuple #[.slice none 0 0, .int .i64 1]) (by simp [results, Try.results33, go_sem, *]) rfl ⟨_, rfl, OwnSO.none _ _, AC.out⟩
  · rw [hk] at HV
    have HV := Lib.hid HV
    cases hq : inB 0 200000 [px, py]
    · rw [hq] at HO
      have HO := Lib.hid HO
      obtain ⟨e1, e2⟩ := dat_no (show datB ps px py = false by unfold datB; rw [hq, Bool.and_false])
      rw [e1, e2]
      clear hk hq e1 e2 HN HD
      go_enter Try.func33, Try.ntmps33
      go_wp2_with (first
        | (go_at_call 26; (refine (HV.out _ (HG.out.below (by go_grown))).mono ?_); rintro e w1 ⟨rfl, hb⟩; have p0 := cell_below (a := ⟨w.heap.size, 0, none⟩) (v := .int .i64 px) (by go_cell) hb; have p1 := cell_below (a := ⟨w.heap.size, 1, none⟩) (v := .int .i64 py) (by go_cell) hb; have AC := Lib.hid (Below.next (a := w) (by go_grown) hb); clear hb)
        | (go_at_call 49; (refine (HO.out _).mono ?_); rintro e w2 ⟨rfl, hb⟩; have AC2 := Lib.hid (Below.next AC.out hb); clear hb))
      refine bodyPost_ret (v := .tuple #[.slice none 0 0, .int .i64 1]) (by simp [results, Try.results33, go_sem, *]) rfl ⟨_, rfl, OwnSO.none _ _, AC2.out⟩
    · rw [hq] at HO
      have HO := Lib.hid HO
      obtain ⟨e1, e2⟩ := dat_in (show datB ps px py = true by unfold datB; rw [hk, hq]; rfl)
      rw [e1, e2]
      clear hk hq e1 e2
      go_enter Try.func33, Try.ntmps33
      go_wp2_with (first
        | (go_at_call 26; (refine (HV.out _ (HG.out.below (by go_grown))).mono ?_); rintro e w1 ⟨rfl, hb⟩; have p0 := cell_below (a := ⟨w.heap.size, 0, none⟩) (v := .int .i64 px) (by go_cell) hb; have p1 := cell_below (a := ⟨w.heap.size, 1, none⟩) (v := .int .i64 py) (by go_cell) hb; have AC := Lib.hid (Below.next (a := w) (by go_grown) hb); clear hb)
        | (go_at_call 49; (refine (HO.out _).mono ?_); rintro e w2 ⟨rfl, hb⟩; have P0 := Lib.hid (cell_below p0 hb); have P1 := Lib.hid (cell_below p1 hb); have AC2 := Lib.hid (Below.next AC.out hb); clear hb p0 p1)
        | (go_at_call 67; (refine (HN.out _ (HG.out.below AC2.out) (fun i hi w' hb => HD.out i _ w' (cell_below P0.out hb) (cell_below P1.out hb))).mono ?_); rintro e w3 ⟨v, rfl, ho, hb⟩; have O3 := Lib.hid (show OwnSO w3 w.heap.size v (namesB (covB px py) ps) from ho.mono AC2.out.size); have AC3 := Lib.hid (Below.next AC2.out hb); clear hb ho))
      refine bodyPost_ret (v := .tuple #[v, .int .i64 0]) (by simp [results, Try.results33, go_sem, *]) rfl ⟨_, rfl, O3.out, AC3.out⟩
theorem OwnSO.litd (w : World) (B g : Nat) (hg : w.heap.size = g) (hB : B ≤ g) : OwnSO (w.alloc (.cells #[] 9)) B (.slice (some ⟨g, 0, Option.none⟩) 0 0) [] := by
  subst hg
  exact OwnSO.mono (World.ownsRow_lit w #[] 0 (Nat.le_refl _) (by unfold maxLen; omega) rfl) hB
end Go.Proofs.Ythccbipjmheoaaa
