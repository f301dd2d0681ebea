/- A valid channel: the model's test. -/
import Derived.Test.YtlelcecbpahliaaGreatDoorChnV
import Derived.Test.YtlelcecbpahliaaGreatDoorDivS
namespace Go.Proofs.YtlelcecbpahliaaGreatDoor
open Go.ChangeShapes Go.WideShapes Go.ChangeAt Go.RowKit Pm

/-- A channel in memory. -/
def ChnAt (w : World) (b : Nat) (s : ByteArray) (v : Value) (z : Int) : Prop :=
  w.cell? ⟨b, 0, none⟩ = some (.string s) ∧ w.cell? ⟨b, 1, none⟩ = some v ∧ w.cell? ⟨b, 2, none⟩ = some (.int .i64 z)
theorem ChnAt.below {w w' : World} {b : Nat} {s : ByteArray} {v : Value} {z : Int} (h : ChnAt w b s v z) (hb : Below w.heap.size w w') : ChnAt w' b s v z :=
  ⟨cell_below h.1 hb, cell_below h.2.1 hb, cell_below h.2.2 hb⟩
theorem ChnAt.new {w : World} {T : TypeId} (s : ByteArray) (v : Value) (z : Int) (n : Nat) (hn : w.heap.size = n) : ChnAt (w.alloc (.cells #[.string s, v, .int .i64 z] T)) n s v z := by
  subst hn
  exact ⟨by simp, by simp, by simp⟩
theorem clx5 {w0 w : World} {a0 a1 a2 a3 a4 : Addr} {v0 v1 v2 v3 v4 : Value} (h0 : w.cell? a0 = some v0) (h1 : w.cell? a1 = some v1) (h2 : w.cell? a2 = some v2) (h3 : w.cell? a3 = some v3) (h4 : w.cell? a4 = some v4) (hB : Below w0.heap.size w0 w) :
    ∃ S : World → Prop, (∀ w1 w2, S w1 → Below w1.heap.size w1 w2 → S w2) ∧ S w.drew ∧ (∀ p : Clx S, p.v.cell? a0 = some v0) ∧ (∀ p : Clx S, p.v.cell? a1 = some v1) ∧ (∀ p : Clx S, p.v.cell? a2 = some v2) ∧ (∀ p : Clx S, p.v.cell? a3 = some v3) ∧ (∀ p : Clx S, p.v.cell? a4 = some v4) ∧ ∀ p : Clx S, Below w0.heap.size w0 p.v :=
  ⟨fun w' => w'.cell? a0 = some v0 ∧ w'.cell? a1 = some v1 ∧ w'.cell? a2 = some v2 ∧ w'.cell? a3 = some v3 ∧ w'.cell? a4 = some v4 ∧ w'.cell? a4 = some v4 ∧ Below w0.heap.size w0 w', fun _ _ h hb => keep6 hb h, drew6 ⟨h0, h1, h2, h3, h4, h4, hB⟩, fun p => p.h.1, fun p => p.h.2.1, fun p => p.h.2.2.1, fun p => p.h.2.2.2.1, fun p => p.h.2.2.2.2.1, fun p => p.h.2.2.2.2.2.2⟩
theorem clx3 {w0 w : World} {a0 a1 a2 : Addr} {v0 v1 v2 : Value} (h0 : w.cell? a0 = some v0) (h1 : w.cell? a1 = some v1) (h2 : w.cell? a2 = some v2) (hB : Below w0.heap.size w0 w) :
    ∃ S : World → Prop, (∀ w1 w2, S w1 → Below w1.heap.size w1 w2 → S w2) ∧ S w.drew ∧ (∀ p : Clx S, p.v.cell? a0 = some v0) ∧ (∀ p : Clx S, p.v.cell? a1 = some v1) ∧ (∀ p : Clx S, p.v.cell? a2 = some v2) ∧ ∀ p : Clx S, Below w0.heap.size w0 p.v :=
  ⟨fun w' => w'.cell? a0 = some v0 ∧ w'.cell? a1 = some v1 ∧ w'.cell? a2 = some v2 ∧ w'.cell? a2 = some v2 ∧ Below w0.heap.size w0 w', fun _ _ h hb => keep4 hb h, drew4 ⟨h0, h1, h2, h2, hB⟩, fun p => p.h.1, fun p => p.h.2.1, fun p => p.h.2.2.1, fun p => p.h.2.2.2.2⟩

theorem okC_pts {s : ByteArray} {ps : Pts} {z : Int} (h : ps.all okB = false) : okC s ps z = false := by unfold okC; rw [h]; simp
theorem okC_stop {s : ByteArray} {ps : Pts} {z : Int} (h : stopB ps = true) : okC s ps z = false := by unfold okC; rw [h]; simp
theorem okC_rest {s : ByteArray} {ps : Pts} {z : Int} (h1 : ps.all okB = true) (h2 : stopB ps = false) : okC s ps z = (nameB s.data.toList && (decide (2 ≤ (ps.length : Int)) && (decide ((ps.length : Int) ≤ 12) && inB 10 5000 [z]))) := by
  unfold okC; rw [h1, h2]; simp [inB, Bool.and_assoc]
/-- What a valid channel's fields are. -/
theorem okC_parts {s : ByteArray} {ps : Pts} {z : Int} (h : okC s ps z = true) : s.size ≤ 10 ∧ 2 ≤ ps.length ∧ ps.length ≤ 12 ∧ (∀ i, i < ps.length → okB (ps.getD i (0, 0)) = true) ∧ 10 ≤ z ∧ z ≤ 5000 ∧ stopB ps = false := by
  simp only [okC, Bool.and_eq_true] at h
  obtain ⟨h1, h2, h3, h4, h5⟩ := h
  have a2 : 2 ≤ (ps.length : Int) ∧ (ps.length : Int) ≤ 12 := by simpa [inB] using h2
  have a5 : 10 ≤ z ∧ z ≤ 5000 := by simpa [inB] using h5
  refine ⟨?_, by omega, by omega, fun i hi => ?_, a5.1, a5.2, by simpa using h4⟩
  · rcases Nat.lt_or_ge 10 s.size with h | h
    · rw [nameB_long h] at h1; cases h1
    · exact h
  · rw [pt_getD ps i hi]
    rw [List.all_eq_true] at h3
    exact h3 _ (List.getElem_mem hi)
/-- What is known of the first k points. -/
def ChnUpto (ps : Pts) (k : Nat) : Prop := (∀ j, j < k → okB (ps.getD j (0, 0)) = true) ∧ ∀ j, 0 < j → j < k → ptB (ps.getD j (0, 0)) (ps.getD (j - 1) (0, 0)) = false
set_option maxRecDepth 100000 in
set_option maxHeartbeats 4000000 in
theorem sokchn_any (b : Nat) (s : ByteArray) (z : Int) (v : Value) (ps : Pts) (w : World) (hs : s.size ≤ maxLen) (hm : ps.length ≤ 1048576) (h : PtsL w v ps) (hc : ChnAt w b s v z) :
    Calls Tryz.prog 65 #[.pointer (some ⟨b, 0, none⟩)] w fun e w' => e = .returned (.bool (okC s ps z)) ∧ Below w.heap.size w w' := by
  obtain ⟨a, c, rfl, h⟩ := h
  have HN1 := Lib.hid (fun w' => sname_any s w' hs)
  have HZ := Lib.hid (fun w' => in_any z 10 5000 w')
  have HAT := Lib.hid hc
  have HPT : Hid (∀ k, k < ps.length → ∃ bb off, a = some ⟨bb, off, none⟩ ∧ ∀ i, i < ps.length → w.cell? ⟨bb, off + i * 2, none⟩ = some (.int .i64 (ps.getD i (0, 0)).1) ∧ w.cell? ⟨bb, off + i * 2 + 1, none⟩ = some (.int .i64 (ps.getD i (0, 0)).2)) := Lib.hid (fun k hk => by
    rcases h with ⟨_, rfl⟩ | ⟨bb, off, cap, hv, _, hp⟩
    · simp at hk
    · simp at hv; exact ⟨bb, off, hv.1, hp⟩)
  obtain ⟨n, hn⟩ : ∃ n, n = ps.length := ⟨_, rfl⟩
  have HN := Lib.hid hn
  rw [← hn] at hm
  rw [← hn] at HAT
  clear hn hc h
  obtain ⟨c0, c1, c2⟩ := HAT.out
  go_enter Tryz.func65, Tryz.ntmps65
  go_wp2_with (fail)
  go_loopw [3] (fun i wr => ∃ k : Nat, k ≤ n ∧ i = .int .i64 k ∧ ChnUpto ps k ∧ Below w.heap.size w wr) (fun i _ => n - (intOf i).toNat)
  case atStart => exact ⟨0, Nat.zero_le _, rfl, ⟨fun j hj => by omega, fun j _ hj => by omega⟩, Below.refl _ _⟩
  case round =>
    clear c0 c1 c2
    obtain ⟨k, hk, rfl, hu, hbel⟩ := hrel
    have HU := Lib.hid hu
    have HB := Lib.hid hbel
    clear hu hbel
    obtain ⟨c0, c1, c2⟩ := HAT.out.below HB.out
    by_cases hlt : k < n
    · have hkn : (k : Int) < (n : Int) := by omega
      obtain ⟨bb, off, rfl, hp⟩ := HPT.out k (by have := HN.out; omega)
      have HP := Lib.hid hp
      clear hp HPT
      have d0 := cell_below (HP.out k (by have := HN.out; omega)).1 HB.out
      have d1 := cell_below (HP.out k (by have := HN.out; omega)).2 HB.out
      have HO := Lib.hid (fun w' => sok_any (ps.getD k (0, 0)).1 (ps.getD k (0, 0)).2 w')
      have hbel := HB.out
      cases hok : okB (ps.getD k (0, 0))
      · have HR := Lib.hid (okC_pts (s := s) (z := z) (all_bad ps k (by have := HN.out; omega) hok))
        rw [show inB 0 200000 [(ps.getD k (0, 0)).1, (ps.getD k (0, 0)).2] = false from hok] at HO
        clear hok
        generalize (ps.getD k (0, 0)).1 = x at *
        generalize (ps.getD k (0, 0)).2 = y at *
        go_wp2_with (fail)
        obtain ⟨S, hcl, hS0, k0, k1, k2, kB⟩ := clx3 c1 d0 d1 hbel
        have hne : Nonempty (Clx S) := ⟨⟨_, hS0⟩⟩
        clear c0 c1 c2 d0 d1 hbel
        refine wp_region_clx S (by kernel_rfl) (by kernel_rfl) hS0 ?_
        repeat (go_big_quiet_step ((go_at_call 105; exact Clx.call hcl _ (HO.out _))))
        refine wpQuiet_nil ?_
        intro _ hw'
        obtain ⟨p, rfl⟩ := hw'
        have HB2 := Lib.hid (kB p)
        clear hS0 kB k0 k1 k2 hne hcl
        go_wp2_with (fail)
        go_ret
        exact ⟨retB HR.out.symm, HB2.out⟩
      · rw [show inB 0 200000 [(ps.getD k (0, 0)).1, (ps.getD k (0, 0)).2] = true from hok] at HO
        have HOK := Lib.hid hok
        clear hok
        by_cases hk0 : k = 0
        · subst hk0
          simp only [Nat.zero_mul, Nat.add_zero] at d0 d1
          generalize hx : (ps.getD 0 (0, 0)).1 = x at *
          generalize hy : (ps.getD 0 (0, 0)).2 = y at *
          clear hx hy
          go_wp2_with (fail)
          obtain ⟨S, hcl, hS0, k0, k1, k2, kB⟩ := clx3 c1 d0 d1 hbel
          have hne : Nonempty (Clx S) := ⟨⟨_, hS0⟩⟩
          clear c0 c1 c2 d0 d1 hbel
          refine wp_region_clx S (by kernel_rfl) (by kernel_rfl) hS0 ?_
          repeat (go_big_quiet_step ((go_at_call 105; exact Clx.call hcl _ (HO.out _))))
          refine wpQuiet_nil ?_
          intro _ hw'
          obtain ⟨p, rfl⟩ := hw'
          have HB2 := Lib.hid (kB p)
          clear hS0 kB k0 k1 k2 hne hcl
          go_wp2_with (fail)
          go_roundw
          case rel => exact ⟨1, by omega, rfl, ⟨fun j hj => by
            obtain rfl : j = 0 := by omega
            exact HOK.out, fun j h0 hj => by omega⟩, HB2.out⟩
          case measure => simp [intOf]; omega
        · obtain ⟨j, rfl⟩ : ∃ j, k = j + 1 := ⟨k - 1, by omega⟩
          have d2 := cell_below (HP.out j (by have := HN.out; omega)).1 HB.out
          have d3 := cell_below (HP.out j (by have := HN.out; omega)).2 HB.out
          have hkp : (0 : Int) < ((j + 1 : Nat) : Int) := by omega
          have hidx : ((j + 1 : Nat) : Int) - 1 = (j : Int) := by omega
          have hgd := ptGuard
          have hne := fun w => ptEql (ps.getD (j + 1) (0, 0)).1 (ps.getD j (0, 0)).1 (ps.getD (j + 1) (0, 0)).2 (ps.getD j (0, 0)).2 w
          cases hb : ptB (ps.getD (j + 1) (0, 0)) (ps.getD j (0, 0))
          · have HR := Lib.hid hb
            rw [show ptB ((ps.getD (j + 1) (0, 0)).1, (ps.getD (j + 1) (0, 0)).2) ((ps.getD j (0, 0)).1, (ps.getD j (0, 0)).2) = false from hb] at hne
            clear hb hk0
            generalize (ps.getD (j + 1) (0, 0)).1 = x at *
            generalize (ps.getD (j + 1) (0, 0)).2 = y at *
            generalize (ps.getD j (0, 0)).1 = x' at *
            generalize (ps.getD j (0, 0)).2 = y' at *
            go_wp2_with (fail)
            obtain ⟨S, hcl, hS0, k0, k1, k2, k3, k4, kB⟩ := clx5 c1 d0 d1 d2 d3 hbel
            have hnS : Nonempty (Clx S) := ⟨⟨_, hS0⟩⟩
            clear c0 c1 c2 d0 d1 d2 d3 hbel
            refine wp_region_clx S (by kernel_rfl) (by kernel_rfl) hS0 ?_
            repeat (go_big_quiet_step ((go_at_call 105; exact Clx.call hcl _ (HO.out _))))
            refine wpQuiet_nil ?_
            intro _ hw'
            obtain ⟨p, rfl⟩ := hw'
            have HB2 := Lib.hid (kB p)
            clear hS0 kB k0 k1 k2 k3 k4 hnS hcl
            go_wp2_with (fail)
            go_roundw
            case rel => exact ⟨j + 1 + 1, by omega, by go_num, ⟨fun i hi => by
              by_cases e : i < j + 1
              · exact HU.out.1 i e
              · obtain rfl : i = j + 1 := by omega
                exact HOK.out, fun i h0 hi => by
              by_cases e : i < j + 1
              · exact HU.out.2 i h0 e
              · obtain rfl : i = j + 1 := by omega
                exact HR.out⟩, HB2.out⟩
            case measure => simp [intOf]; omega
          · have HR := Lib.hid (okC_stop (s := s) (z := z) (stop_yes (ps := ps) (k := j + 1) (by omega) (by have := HN.out; omega) hb))
            rw [show ptB ((ps.getD (j + 1) (0, 0)).1, (ps.getD (j + 1) (0, 0)).2) ((ps.getD j (0, 0)).1, (ps.getD j (0, 0)).2) = true from hb] at hne
            clear hb hk0
            generalize (ps.getD (j + 1) (0, 0)).1 = x at *
            generalize (ps.getD (j + 1) (0, 0)).2 = y at *
            generalize (ps.getD j (0, 0)).1 = x' at *
            generalize (ps.getD j (0, 0)).2 = y' at *
            go_wp2_with (fail)
            obtain ⟨S, hcl, hS0, k0, k1, k2, k3, k4, kB⟩ := clx5 c1 d0 d1 d2 d3 hbel
            have hnS : Nonempty (Clx S) := ⟨⟨_, hS0⟩⟩
            clear c0 c1 c2 d0 d1 d2 d3 hbel
            refine wp_region_clx S (by kernel_rfl) (by kernel_rfl) hS0 ?_
            repeat (go_big_quiet_step ((go_at_call 105; exact Clx.call hcl _ (HO.out _))))
            refine wpQuiet_nil ?_
            intro _ hw'
            obtain ⟨p, rfl⟩ := hw'
            have HB2 := Lib.hid (kB p)
            clear hS0 kB k0 k1 k2 k3 k4 hnS hcl
            go_wp2_with (fail)
            go_ret
            exact ⟨retB HR.out.symm, HB2.out⟩
    · obtain rfl : k = n := by omega
      have HV := Lib.hid (okC_rest (s := s) (z := z) (all_upto ps k HU.out.1 (by have := HN.out; omega)) (stop_no (fun i h0 hi => HU.out.2 i h0 (by have := HN.out; omega))))
      rw [← HN.out] at HV
      clear hlt HPT HU HN
      generalize nameB s.data.toList = b1 at *
      generalize inB 10 5000 [z] = b4 at *
      cases b1
      · go_wp2_with (first | (go_at_call 106; (refine (HN1.out _).mono ?_); rintro e w1 ⟨rfl, rfl⟩) | (go_at_call 107; (refine (HZ.out _).mono ?_); rintro e w1 ⟨rfl, rfl⟩))
        go_ret
        exact ⟨retB HV.out.symm, HB.out⟩
      by_cases h2 : (2 : Int) ≤ (k : Int)
      · by_cases h12 : (k : Int) ≤ 12
        · rw [decide_eq_true h2, decide_eq_true h12] at HV
          go_wp2_with (first | (go_at_call 106; (refine (HN1.out _).mono ?_); rintro e w1 ⟨rfl, rfl⟩) | (go_at_call 107; (refine (HZ.out _).mono ?_); rintro e w1 ⟨rfl, rfl⟩))
          go_ret
          exact ⟨retB (by rw [HV.out]; simp), HB.out⟩
        · rw [decide_eq_true h2, decide_eq_false h12] at HV
          go_wp2_with (first | (go_at_call 106; (refine (HN1.out _).mono ?_); rintro e w1 ⟨rfl, rfl⟩) | (go_at_call 107; (refine (HZ.out _).mono ?_); rintro e w1 ⟨rfl, rfl⟩))
          go_ret
          exact ⟨retB (by rw [HV.out]; simp), HB.out⟩
      · rw [decide_eq_false h2] at HV
        go_wp2_with (first | (go_at_call 106; (refine (HN1.out _).mono ?_); rintro e w1 ⟨rfl, rfl⟩) | (go_at_call 107; (refine (HZ.out _).mono ?_); rintro e w1 ⟨rfl, rfl⟩))
        go_ret
        exact ⟨retB (by rw [HV.out]; simp), HB.out⟩
end Go.Proofs.YtlelcecbpahliaaGreatDoor
