/- slices.MinFunc over the segments. -/
import Derived.Test.YthccbipjmheoaaaNearC
namespace Go.Proofs.Ythccbipjmheoaaa
open Go.ChangeShapes Go.WideShapes Go.ChangeAt Go.RowKit Pm

/-- The cells of a row of segments. -/
def SegRow (w : World) (g : Nat) (ps : Pts) (n : Nat) : Prop := ∀ i, i < n → ∀ j v, (segC ps i)[j]? = some v → w.cell? ⟨g, i * 6 + j, none⟩ = some v
theorem SegRow.below {w w' : World} {g : Nat} {ps : Pts} {n : Nat} (h : SegRow w g ps n) (hb : Below w.heap.size w w') : SegRow w' g ps n := fun i hi j v hv => cell_below (h i hi j v hv) hb
theorem SegRow.six {w : World} {g : Nat} {ps : Pts} {n : Nat} (h : SegRow w g ps n) {i : Nat} (hi : i < n) :
    w.cell? ⟨g, i * 6, none⟩ = some (.int .i64 (ps.getD i (0, 0)).1) ∧ w.cell? ⟨g, i * 6 + 1, none⟩ = some (.int .i64 (ps.getD i (0, 0)).2) ∧ w.cell? ⟨g, i * 6 + 2, none⟩ = some (.int .i64 (ps.getD (i + 1) (0, 0)).1) ∧ w.cell? ⟨g, i * 6 + 3, none⟩ = some (.int .i64 (ps.getD (i + 1) (0, 0)).2) ∧ w.cell? ⟨g, i * 6 + 4, none⟩ = some (.int .i64 (begV ps i)) ∧ w.cell? ⟨g, i * 6 + 5, none⟩ = some (.int .i64 (dL ps i)) :=
  ⟨h i hi 0 _ rfl, h i hi 1 _ rfl, h i hi 2 _ rfl, h i hi 3 _ rfl, h i hi 4 _ rfl, h i hi 5 _ rfl⟩
theorem near_eta (ps : Pts) (q : Int × Int) (i : Nat) : gpV ((ps.getD i (0, 0)).1, (ps.getD i (0, 0)).2) ((ps.getD (i + 1) (0, 0)).1, (ps.getD (i + 1) (0, 0)).2) (q.1, q.2) = gS ps q i := rfl
theorem nearc_seg (ps : Pts) (q : Int × Int) (m j P : Nat) (w : World) (hp0 : w.cell? ⟨P, 0, none⟩ = some (.int .i64 q.1)) (hp1 : w.cell? ⟨P, 1, none⟩ = some (.int .i64 q.2)) :
    Calls Try.prog 86 #[.agg #[.int .i64 (ps.getD m (0, 0)).1, .int .i64 (ps.getD m (0, 0)).2, .int .i64 (ps.getD (m + 1) (0, 0)).1, .int .i64 (ps.getD (m + 1) (0, 0)).2, .int .i64 (begV ps m), .int .i64 (dL ps m)], .agg #[.int .i64 (ps.getD j (0, 0)).1, .int .i64 (ps.getD j (0, 0)).2, .int .i64 (ps.getD (j + 1) (0, 0)).1, .int .i64 (ps.getD (j + 1) (0, 0)).2, .int .i64 (begV ps j), .int .i64 (dL ps j)], .pointer (some ⟨P, 0, none⟩)] w fun e w' => e = .returned (.int .i64 (cmpV (gS ps q m) (gS ps q j))) ∧ Below w.heap.size w w' :=
  nearc_any _ _ _ _ _ _ _ _ _ _ _ _ q.1 q.2 P w hp0 hp1
set_option maxRecDepth 100000 in
set_option maxHeartbeats 500000 in
theorem minf_any (g cap n : Nat) (ps : Pts) (q : Int × Int) (P : Nat) (w : World) (hn : 1 ≤ n) (hn12 : n ≤ 11) (hrow : SegRow w g ps n) (hp0 : w.cell? ⟨P, 0, none⟩ = some (.int .i64 q.1)) (hp1 : w.cell? ⟨P, 1, none⟩ = some (.int .i64 q.2)) :
    Calls Try.prog 83 #[.slice (some ⟨g, 0, none⟩) n cap, .func (.func 86) #[] #[.pointer (some ⟨P, 0, none⟩)]] w fun e w' => e = .returned (segV ps (nearUp ps q (n - 1))) ∧ Below w.heap.size w w' := by
  have HR := Lib.hid hrow
  have HP0 := Lib.hid hp0
  have HP1 := Lib.hid hp1
  obtain ⟨x0, x1, x2, x3, x4, x5⟩ := hrow.six (i := 0) (by omega)
  simp only [Nat.zero_mul, Nat.zero_add] at x0 x1 x2 x3 x4 x5
  replace x0 := fun o => cell_below x0 ((Below.refl w.heap.size w).alloc (Nat.le_refl _) o)
  replace x1 := fun o => cell_below x1 ((Below.refl w.heap.size w).alloc (Nat.le_refl _) o)
  replace x2 := fun o => cell_below x2 ((Below.refl w.heap.size w).alloc (Nat.le_refl _) o)
  replace x3 := fun o => cell_below x3 ((Below.refl w.heap.size w).alloc (Nat.le_refl _) o)
  replace x4 := fun o => cell_below x4 ((Below.refl w.heap.size w).alloc (Nat.le_refl _) o)
  replace x5 := fun o => cell_below x5 ((Below.refl w.heap.size w).alloc (Nat.le_refl _) o)
  have hn1 : ¬ (n : Int) < 1 := by omega
  have hn0 : (0 : Int) < (n : Int) := by omega
  clear hrow hp0 hp1
  go_enter Try.func83, Try.ntmps83
  go_wp2_with (fail)
  obtain ⟨W1, hW1⟩ : ∃ W1, W1 = ((w.alloc (.cells #[.int .i64 0, .int .i64 0, .int .i64 0, .int .i64 0, .int .i64 0, .int .i64 0] 79)).alloc (.cells #[.int .i64 (ps.getD 0 (0, 0)).1, .int .i64 (ps.getD 0 (0, 0)).2, .int .i64 (ps.getD 1 (0, 0)).1, .int .i64 (ps.getD 1 (0, 0)).2, .int .i64 (begV ps 0), .int .i64 (dL ps 0)] 79)) := ⟨_, rfl⟩
  have bR : BlkAt W1 w.heap.size #[.int .i64 0, .int .i64 0, .int .i64 0, .int .i64 0, .int .i64 0, .int .i64 0] 79 := by subst hW1; exact (BlkAt.new w _ _).alloc _
  have bM : BlkAt W1 (w.heap.size + 1) (segC ps 0) 79 := by
    subst hW1
    have h := BlkAt.new (w.alloc (.cells #[.int .i64 0, .int .i64 0, .int .i64 0, .int .i64 0, .int .i64 0, .int .i64 0] 79)) (segC ps 0) 79
    rw [World.size_alloc] at h
    exact h
  have hB : Below w.heap.size w W1 := by subst hW1; go_grown
  clear x0 x1 x2 x3 x4 x5
  go_wp2_with (fail)
  go_loopw [6] (fun i wr => ∃ k : Nat, k + 1 ≤ n ∧ i = .int .i64 ((k + 1 : Nat) : Int) ∧ BlkAt wr w.heap.size #[.int .i64 0, .int .i64 0, .int .i64 0, .int .i64 0, .int .i64 0, .int .i64 0] 79 ∧ BlkAt wr (w.heap.size + 1) (segC ps (nearUp ps q k)) 79 ∧ Below w.heap.size w wr) (fun i _ => n - (intOf i).toNat)
  case atStart =>
    subst hW1
    exact ⟨0, hn, rfl, bR, bM, hB⟩
  case round =>
    clear bR bM hB hW1 W1
    obtain ⟨k, hk, rfl, bR, bM, hB⟩ := hrel
    have hle := nearUp_le ps q k
    by_cases hlt : k + 1 < n
    · obtain ⟨m, hm⟩ : ∃ m, m = k + 1 := ⟨_, rfl⟩
      have hkn : (m : Int) < (n : Int) := by omega
      have hm0 : (0 : Int) ≤ (m : Int) := by omega
      obtain ⟨y0, y1, y2, y3, y4, y5⟩ := (HR.out.below hB).six (i := m) (by omega)
      have p0 := cell_below HP0.out hB
      have p1 := cell_below HP1.out hB
      have HC := Lib.hid (fun w' h0 h1 => nearc_seg ps q m (nearUp ps q k) P w' h0 h1)
      have HUP := Lib.hid (show nearUp ps q m = if gS ps q m < gS ps q (nearUp ps q k) then m else nearUp ps q k by rw [hm]; rfl)
      have HCV := Lib.hid (show cmpV (gS ps q m) (gS ps q (nearUp ps q k)) < 0 ↔ gS ps q m < gS ps q (nearUp ps q k) by
        unfold cmpV
        constructor
        · intro h
          by_cases c : gS ps q m < gS ps q (nearUp ps q k)
          · exact c
          · rw [if_neg c] at h
            split at h <;> omega
        · intro h
          rw [if_pos h]
          decide)
      have SMB := Lib.hid (show segC ps m = #[.int .i64 (ps.getD m (0, 0)).1, .int .i64 (ps.getD m (0, 0)).2, .int .i64 (ps.getD (m + 1) (0, 0)).1, .int .i64 (ps.getD (m + 1) (0, 0)).2, .int .i64 (begV ps m), .int .i64 (dL ps m)] from rfl)
      have SNB := Lib.hid (show segC ps (nearUp ps q k) = #[.int .i64 (ps.getD (nearUp ps q k) (0, 0)).1, .int .i64 (ps.getD (nearUp ps q k) (0, 0)).2, .int .i64 (ps.getD (nearUp ps q k + 1) (0, 0)).1, .int .i64 (ps.getD (nearUp ps q k + 1) (0, 0)).2, .int .i64 (begV ps (nearUp ps q k)), .int .i64 (dL ps (nearUp ps q k))] from rfl)
      rw [SNB.out] at bM
      have HM := Lib.hid hm
      rw [← hm]
      generalize cmpV (gS ps q m) (gS ps q (nearUp ps q k)) = V at *
      generalize (ps.getD m (0, 0)).1 = e0 at *
      generalize (ps.getD m (0, 0)).2 = e1 at *
      generalize (ps.getD (m + 1) (0, 0)).1 = e2 at *
      generalize (ps.getD (m + 1) (0, 0)).2 = e3 at *
      generalize begV ps m = e4 at *
      generalize dL ps m = e5 at *
      generalize (ps.getD (nearUp ps q k) (0, 0)).1 = f0 at *
      generalize (ps.getD (nearUp ps q k) (0, 0)).2 = f1 at *
      generalize (ps.getD (nearUp ps q k + 1) (0, 0)).1 = f2 at *
      generalize (ps.getD (nearUp ps q k + 1) (0, 0)).2 = f3 at *
      generalize begV ps (nearUp ps q k) = f4 at *
      generalize dL ps (nearUp ps q k) = f5 at *
      clear hm hle hlt hk
      go_wp2_with (fail)
      obtain ⟨S, hS⟩ : ∃ S : World → Prop, S = fun w' => BlkAt w' (w.heap.size + 1) #[.int .i64 f0, .int .i64 f1, .int .i64 f2, .int .i64 f3, .int .i64 f4, .int .i64 f5] 79 ∧ BlkAt w' w.heap.size #[.int .i64 0, .int .i64 0, .int .i64 0, .int .i64 0, .int .i64 0, .int .i64 0] 79 ∧ Below w.heap.size w w' ∧ Below wr.heap.size wr w' := ⟨_, rfl⟩
      have hcl : ∀ w1 w2, S w1 → Below w1.heap.size w1 w2 → S w2 := by
        subst hS
        rintro w1 w2 ⟨h1, h2, h3, h4⟩ hb
        exact ⟨h1.below hb, h2.below hb, Below.next h3 hb, Below.next h4 hb⟩
      have hS0 : S wr.drew := by
        refine hcl wr _ ?_ (Below.refl _ _).drew
        subst hS
        exact ⟨bM, bR, hB, Below.refl _ _⟩
      have kall : ∀ p : Clx S, BlkAt p.v (w.heap.size + 1) #[.int .i64 f0, .int .i64 f1, .int .i64 f2, .int .i64 f3, .int .i64 f4, .int .i64 f5] 79 ∧ BlkAt p.v w.heap.size #[.int .i64 0, .int .i64 0, .int .i64 0, .int .i64 0, .int .i64 0, .int .i64 0] 79 ∧ Below w.heap.size w p.v ∧ Below wr.heap.size wr p.v := by
        subst hS
        exact fun p => p.h
      have k0 := fun p : Clx S => (kall p).1.cell 0 _ rfl
      have k1 := fun p : Clx S => (kall p).1.cell 1 _ rfl
      have k2 := fun p : Clx S => (kall p).1.cell 2 _ rfl
      have k3 := fun p : Clx S => (kall p).1.cell 3 _ rfl
      have k4 := fun p : Clx S => (kall p).1.cell 4 _ rfl
      have k5 := fun p : Clx S => (kall p).1.cell 5 _ rfl
      have z0 := fun p : Clx S => cell_below y0 (kall p).2.2.2
      have z1 := fun p : Clx S => cell_below y1 (kall p).2.2.2
      have z2 := fun p : Clx S => cell_below y2 (kall p).2.2.2
      have z3 := fun p : Clx S => cell_below y3 (kall p).2.2.2
      have z4 := fun p : Clx S => cell_below y4 (kall p).2.2.2
      have z5 := fun p : Clx S => cell_below y5 (kall p).2.2.2
      have q0 := fun p : Clx S => cell_below p0 (kall p).2.2.2
      have q1 := fun p : Clx S => cell_below p1 (kall p).2.2.2
      have KA := Lib.hid kall
      have hnS : Nonempty (Clx S) := ⟨⟨_, hS0⟩⟩
      clear bM bR hB y0 y1 y2 y3 y4 y5 p0 p1 kall hS
      refine wp_region_clx S (by kernel_rfl) (by kernel_rfl) hS0 ?_
      repeat (go_big_quiet_step ((go_at_call 86; exact Clx.call hcl _ (HC.out _ (q0 _) (q1 _)))))
      refine wpQuiet_nil ?_
      intro _ hw'
      obtain ⟨p, rfl⟩ := hw'
      obtain ⟨bM, bR, hB, hBw⟩ := KA.out p
      clear hBw
      have y0 := z0 p
      have y1 := z1 p
      have y2 := z2 p
      have y3 := z3 p
      have y4 := z4 p
      have y5 := z5 p
      generalize p.v = W2 at *
      clear hS0 k0 k1 k2 k3 k4 k5 z0 z1 z2 z3 z4 z5 q0 q1 KA hnS hcl p
      have BM := Lib.hid bM
      have BR := Lib.hid bR
      have BB := Lib.hid hB
      have Y := Lib.hid (And.intro y0 (And.intro y1 (And.intro y2 (And.intro y3 (And.intro y4 y5)))))
      clear bM bR hB y0 y1 y2 y3 y4 y5
      by_cases hV : V < 0
      · have HN2 := Lib.hid (HUP.out.trans (if_pos (HCV.out.1 hV)))
        go_upto_region 8 with (fail)
        have bM := BM.out
        obtain ⟨y0, y1, y2, y3, y4, y5⟩ := Y.out
        have m0 := bM.frozen 0
        have m1 := bM.frozen 1
        have m2 := bM.frozen 2
        have m3 := bM.frozen 3
        have m4 := bM.frozen 4
        have m5 := bM.frozen 5
        have c0 := bM.cell 0 _ rfl
        have c1 := bM.cell 1 _ rfl
        have c2 := bM.cell 2 _ rfl
        have c3 := bM.cell 3 _ rfl
        have c4 := bM.cell 4 _ rfl
        have c5 := bM.cell 5 _ rfl
        clear bM
        go_wp2_with (fail)
        go_roundw
        case rel => exact ⟨m, by omega, by go_num, BR.out.six_other (by omega), by rw [HN2.out, SMB.out]; exact BM.out.six, six_below (Nat.le_succ _) BB.out⟩
        case measure => simp [intOf]; omega
      · have HN2 := Lib.hid (HUP.out.trans (if_neg (fun h => hV (HCV.out.2 h))))
        go_wp2_with (fail)
        go_roundw
        case rel => exact ⟨m, by omega, by go_num, BR.out, by rw [HN2.out, SNB.out]; exact BM.out, BB.out⟩
        case measure => simp [intOf]; omega
    · obtain rfl : n = k + 1 := by omega
      clear hle hn1 hn0
      obtain ⟨j, hj⟩ : ∃ j, j = nearUp ps q k := ⟨_, rfl⟩
      rw [← hj] at bM
      have HJ := Lib.hid hj
      clear hj
      have BR := Lib.hid bR
      have BB := Lib.hid hB
      unfold segC at bM
      have c0 := bM.cell 0 _ rfl
      have c1 := bM.cell 1 _ rfl
      have c2 := bM.cell 2 _ rfl
      have c3 := bM.cell 3 _ rfl
      have c4 := bM.cell 4 _ rfl
      have c5 := bM.cell 5 _ rfl
      have r0 := bR.cell 0 _ rfl
      have r1 := bR.cell 1 _ rfl
      have r2 := bR.cell 2 _ rfl
      have r3 := bR.cell 3 _ rfl
      have r4 := bR.cell 4 _ rfl
      have r5 := bR.cell 5 _ rfl
      have m0 := bR.frozen 0
      have m1 := bR.frozen 1
      have m2 := bR.frozen 2
      have m3 := bR.frozen 3
      have m4 := bR.frozen 4
      have m5 := bR.frozen 5
      clear bM bR hB
      go_wp2_with (fail)
      have AC := Lib.hid (six_below (B := w.heap.size) (x0 := .int .i64 (ps.getD j (0, 0)).1) (x1 := .int .i64 (ps.getD j (0, 0)).2) (x2 := .int .i64 (ps.getD (j + 1) (0, 0)).1) (x3 := .int .i64 (ps.getD (j + 1) (0, 0)).2) (x4 := .int .i64 (begV ps j)) (x5 := .int .i64 (dL ps j)) (Nat.le_refl _) BB.out)
      clear c0 c1 c2 c3 c4 c5
      refine bodyPost_ret (v := segV ps j) ?_ rfl ⟨by rw [show k + 1 - 1 = k by omega, ← HJ.out], AC.out⟩
      unfold segV
      simp [results, Try.results83, go_sem, r0, r1, r2, r3, r4, r5]
end Go.Proofs.Ythccbipjmheoaaa
