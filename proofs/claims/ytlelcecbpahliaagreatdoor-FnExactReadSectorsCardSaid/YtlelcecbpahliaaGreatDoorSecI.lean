/- Valid sectors: the program's test. -/
import Derived.Test.YtlelcecbpahliaaGreatDoorSecW
import Derived.BigQuiet
namespace Go.Proofs.YtlelcecbpahliaaGreatDoor
open Go.ChangeShapes Go.WideShapes Go.ChangeAt Go.RowKit Pm

/-- The worlds that meet S. -/
structure Clw (S : World → Prop) where
  v : World
  h : S v
theorem wp_region_clw {P : Program} (S : World → Prop) {id : Nat} {Q : Exit → Act → World → Prop} {a : Act} {w : World} {l : List Oper} (hm : P.follows .mixedOrders = true) (hB : Region.lexB .any l.toArray = true) (hS : S w.drew)
    (h : wpQuiet P l.toArray (fun w' => ∃ p : Clw S, w' = p.v) (fun a' => ∀ w', (∃ p : Clw S, w' = p.v) → Q .normal a' w') l a) : (Code.region id l.toArray true).wp P Q a w :=
  wp_region_quiet (C := fun w' => ∃ p : Clw S, w' = p.v) hm hB ⟨⟨_, hS⟩, rfl⟩ (by simpa using h)
theorem Clw.call {S : World → Prop} (hcl : ∀ w w', S w → Below w.heap.size w w' → S w') (p : Clw S) {P : Program} {f : FuncId} {args : Array Value} {v : Value}
    (h : Calls P f args p.v fun e w' => e = .returned v ∧ Below p.v.heap.size p.v w') : Calls P f args p.v fun e w'' => e = .returned v ∧ ∃ q : Clw S, w'' = q.v :=
  h.mono fun _ w' ⟨he, hb⟩ => ⟨he, ⟨w', hcl _ _ p.h hb⟩, rfl⟩
theorem clw4 {w0 w : World} {a0 a1 a2 a3 : Addr} {v0 v1 v2 v3 : Value} (h : w.cell? a0 = some v0 ∧ w.cell? a1 = some v1 ∧ w.cell? a2 = some v2 ∧ w.cell? a3 = some v3 ∧ Below w0.heap.size w0 w) : ∃ S : World → Prop, (∀ w1 w2, S w1 → Below w1.heap.size w1 w2 → S w2) ∧ S w.drew ∧ (∀ p : Clw S, p.v.cell? a0 = some v0) ∧ (∀ p : Clw S, p.v.cell? a1 = some v1) ∧ (∀ p : Clw S, p.v.cell? a2 = some v2) ∧ (∀ p : Clw S, p.v.cell? a3 = some v3) ∧ ∀ p : Clw S, Below w0.heap.size w0 p.v :=
  ⟨fun w' => w'.cell? a0 = some v0 ∧ w'.cell? a1 = some v1 ∧ w'.cell? a2 = some v2 ∧ w'.cell? a3 = some v3 ∧ Below w0.heap.size w0 w', fun _ _ h hb => keep4 hb h, drew4 h, fun p => p.h.1, fun p => p.h.2.1, fun p => p.h.2.2.1, fun p => p.h.2.2.2.1, fun p => p.h.2.2.2.2⟩
set_option maxHeartbeats 2000000 in
theorem okay_row (b off c : Nat) (ps : List Sec) (w : World) (h0 : 0 < ps.length) (hl : ps.length ≤ 12) (hc : ∀ i, i < ps.length → SecAt w b (off + i * 3) (ps.getD i sec0)) :
    Calls Tryz.prog 63 #[.slice (some ⟨b, off, none⟩) ps.length c] w fun e w' => e = .returned (.bool (validS ps)) ∧ Below w.heap.size w w' := by
  obtain ⟨n, hn⟩ : ∃ n, n = ps.length := ⟨_, rfl⟩
  have HN := Lib.hid hn
  have HC := Lib.hid hc
  rw [← hn] at hl h0 ⊢
  have h12 : ¬ (12 : Int) < (n : Int) := by omega
  clear hc hn
  go_enter Tryz.func63, Tryz.ntmps63
  go_wp2_with (fail)
  go_loopw [12] (fun i wr => ∃ k : Nat, k ≤ n ∧ i = .int .i64 k ∧ ImpUpto ps k ∧ Below w.heap.size w wr) (fun i _ => n - (intOf i).toNat)
  case atStart => exact ⟨0, Nat.zero_le _, rfl, ImpUpto.zero ps, Below.refl _ _⟩
  case round =>
    obtain ⟨k, hk, rfl, hj, hbel⟩ := hrel
    have HJ := Lib.hid hj
    have HB := Lib.hid hbel
    clear hj
    by_cases hlt : k < n
    · have hkn : (k : Int) < (n : Int) := by omega
      have hkl : k < ps.length := by have := HN.out; omega
      have hql : (k + 1) % n < ps.length := by have := HN.out; have := Nat.mod_lt (k + 1) h0; omega
      have c0 := cell_below (HC.out k hkl).1 hbel
      have c1 := cell_below (HC.out k hkl).2.1 hbel
      have c2 := cell_below (HC.out k hkl).2.2 hbel
      have d0 := cell_below (HC.out ((k + 1) % n) hql).1 hbel
      have d1 := cell_below (HC.out ((k + 1) % n) hql).2.1 hbel
      have d2 := cell_below (HC.out ((k + 1) % n) hql).2.2 hbel
      have hidx : ((k : Int) + 1).tmod (n : Int) = (((k + 1) % n : Nat) : Int) := by
        rw [Int.tmod_eq_emod_of_nonneg (by omega)]; rfl
      have hq1 : (k + 1) % n < n := Nat.mod_lt _ h0
      have hroom : roomP ps k = arcS ((ps.getD k sec0).1, (ps.getD ((k + 1) % n) sec0).1, ⟨#[]⟩) := by unfold roomP; rw [← HN.out]
      have HR := Lib.hid (fun w => arcof_any (ps.getD k sec0).1 (ps.getD ((k + 1) % n) sec0).1 ⟨#[]⟩ w)
      rw [← hroom] at HR
      have HVS := Lib.hid (fun w => validsec_any (ps.getD k sec0).1 (ps.getD k sec0).2.1 (ps.getD k sec0).2.2 w)
      have HAR := Lib.hid (fun w => arcof_any (ps.getD k sec0).1 (ps.getD k sec0).2.1 (ps.getD k sec0).2.2 w)
      obtain ⟨room, hro⟩ : ∃ r, r = roomP ps k := ⟨_, rfl⟩
      obtain ⟨arc, har⟩ : ∃ r, r = arcS (ps.getD k sec0) := ⟨_, rfl⟩
      obtain ⟨ok, hok⟩ : ∃ r, r = okSec (ps.getD k sec0) := ⟨_, rfl⟩
      have HS := Lib.hid (show ok = true → (0 < k → (ps.getD (k - 1) sec0).1 < (ps.getD k sec0).1) → arc ≤ room → ImpUpto ps (k + 1) from fun h1 h2 h3 => HJ.out.step (by rw [← hok]; exact h1) h2 (by rw [← har, ← hro]; exact h3))
      have HN1 := Lib.hid (show ok = false → ¬ ValidS ps from fun h => no_ok hkl (by rw [← hok]; exact h))
      have HN2 := Lib.hid (show 0 < k → (ps.getD k sec0).1 ≤ (ps.getD (k - 1) sec0).1 → ¬ ValidS ps from fun h h2 => no_rise hkl h h2)
      have HN3 := Lib.hid (show room < arc → ¬ ValidS ps from fun h => no_room hkl (by rw [← har, ← hro]; exact h))
      rw [← hro] at HR
      rw [show okSec ((ps.getD k sec0).1, (ps.getD k sec0).2.1, (ps.getD k sec0).2.2) = ok from hok.symm] at HVS
      rw [show arcS ((ps.getD k sec0).1, (ps.getD k sec0).2.1, (ps.getD k sec0).2.2) = arc from har.symm] at HAR
      have e1 : 0 < k → wr.cell? ⟨b, off + (k - 1) * 3, none⟩ = some (.int .i64 (ps.getD (k - 1) sec0).1) := fun h => cell_below (HC.out (k - 1) (by omega)).1 hbel
      have E1 := Lib.hid e1
      clear hro har hok hroom hql e1
      generalize (ps.getD k sec0).1 = x at *
      generalize (ps.getD k sec0).2.1 = t at *
      generalize (ps.getD k sec0).2.2 = s at *
      generalize (ps.getD ((k + 1) % n) sec0).1 = y at *
      generalize (ps.getD ((k + 1) % n) sec0).2.1 = yt at *
      generalize (ps.getD ((k + 1) % n) sec0).2.2 = ys at *
      generalize (ps.getD (k - 1) sec0).1 = pv at *
      generalize (k + 1) % n = q at *
      have hsz := hbel.size
      have HB1 := Lib.hid (show Below w.heap.size w ((wr.alloc (.cells #[.int .i64 x, .int .i64 t, .string s] 52)).alloc (.cells #[.int .i64 y, .int .i64 yt, .string ys] 52)) from (hbel.alloc hbel.size _).alloc (by have := hbel.size; simp; omega) _)
      have d0 := cell_below d0 ((Below.refl wr.heap.size wr).alloc (Nat.le_refl _) (.cells #[.int .i64 x, .int .i64 t, .string s] 52))
      have d1 := cell_below d1 ((Below.refl wr.heap.size wr).alloc (Nat.le_refl _) (.cells #[.int .i64 x, .int .i64 t, .string s] 52))
      have d2 := cell_below d2 ((Below.refl wr.heap.size wr).alloc (Nat.le_refl _) (.cells #[.int .i64 x, .int .i64 t, .string s] 52))
      clear hbel hkl
      go_wp2_with (go_at_call 103; refine (HR.out _).mono ?_; rintro e w2 ⟨rfl, hb⟩; refine Hid.out ?_)
      refine Lib.hid ?_
      have s0 : w2.cell? ⟨wr.heap.size, 0, none⟩ = some (.int .i64 x) := cell_below (by simp) hb
      have s1 : w2.cell? ⟨wr.heap.size, 1, none⟩ = some (.int .i64 t) := cell_below (by simp) hb
      have s2 : w2.cell? ⟨wr.heap.size, 2, none⟩ = some (.string s) := cell_below (by simp) hb
      have E2 := Lib.hid (show 0 < k → w2.cell? ⟨b, off + (k - 1) * 3, none⟩ = some (.int .i64 pv) from fun h => cell_below (cell_below (E1.out h) (((Below.refl _ _).alloc (Nat.le_refl _) _).alloc (by simp) _)) hb)
      have HB2 := Lib.hid (Below.next HB1.out hb)
      clear hb c0 c1 c2 d0 d1 d2 E1 HB1 HB hidx hq1
      cases ok
      · have HV := Lib.hid (validS_no (HN1.out rfl))
        clear E2 HN2 HN3 HS
        go_wp2_with (fail)
        obtain ⟨S, hcl, hS0, k0, k1, k2, k3, kB⟩ := clw4 ⟨s0, s1, s2, s0, HB2.out⟩
        have hne : Nonempty (Clw S) := ⟨⟨_, hS0⟩⟩
        clear s0 s1 s2 HB2
        refine wp_region_clw S (by kernel_rfl) (by kernel_rfl) hS0 ?_
        repeat (go_big_quiet_step (first
          | (go_at_call 104; exact Clw.call hcl _ (HVS.out _))
          | (go_at_call 103; exact Clw.call hcl _ (HAR.out _))))
        refine wpQuiet_nil ?_
        intro _ hw'
        obtain ⟨p, rfl⟩ := hw'
        go_wp2_with (fail)
        go_ret
        exact ⟨retB HV.out.symm, kB p⟩
      · by_cases hk0 : k = 0
        · subst hk0
          clear E2 HN1 HN2
          by_cases hz : arc ≤ room
          · have hd : decide (room < arc) = false := by simpa using hz
            have HG := Lib.hid (HS.out rfl (fun h => by omega) hz)
            clear hz HS HN3
            go_wp2_with (fail)
            obtain ⟨S, hcl, hS0, k0, k1, k2, k3, kB⟩ := clw4 ⟨s0, s1, s2, s0, HB2.out⟩
            have hne : Nonempty (Clw S) := ⟨⟨_, hS0⟩⟩
            clear s0 s1 s2 HB2
            refine wp_region_clw S (by kernel_rfl) (by kernel_rfl) hS0 ?_
            repeat (go_big_quiet_step (first
              | (go_at_call 104; exact Clw.call hcl _ (HVS.out _))
              | (go_at_call 103; exact Clw.call hcl _ (HAR.out _))))
            refine wpQuiet_nil ?_
            intro _ hw'
            obtain ⟨p, rfl⟩ := hw'
            go_wp2_with (fail)
            go_roundw
            case rel => exact ⟨1, by omega, rfl, HG.out, kB p⟩
            case measure => simp [intOf]; omega
          · have hd : decide (room < arc) = true := by simp; omega
            have hd1 : room < arc := by omega
            have HV := Lib.hid (validS_no (HN3.out hd1))
            clear hz HS HN3
            go_wp2_with (fail)
            obtain ⟨S, hcl, hS0, k0, k1, k2, k3, kB⟩ := clw4 ⟨s0, s1, s2, s0, HB2.out⟩
            have hne : Nonempty (Clw S) := ⟨⟨_, hS0⟩⟩
            clear s0 s1 s2 HB2
            refine wp_region_clw S (by kernel_rfl) (by kernel_rfl) hS0 ?_
            repeat (go_big_quiet_step (first
              | (go_at_call 104; exact Clw.call hcl _ (HVS.out _))
              | (go_at_call 103; exact Clw.call hcl _ (HAR.out _))))
            refine wpQuiet_nil ?_
            intro _ hw'
            obtain ⟨p, rfl⟩ := hw'
            go_wp2_with (fail)
            go_ret
            exact ⟨retB HV.out.symm, kB p⟩
        · obtain ⟨j, rfl⟩ : ∃ j, k = j + 1 := ⟨k - 1, by omega⟩
          have e2 := E2.out (by omega)
          rw [Nat.add_sub_cancel] at e2
          have hkp : (0 : Int) < ((j + 1 : Nat) : Int) := by omega
          have hidx : ((j + 1 : Nat) : Int) - 1 = (j : Int) := by omega
          clear E2 HN1 hk0
          by_cases hxy : x ≤ pv
          · have HV := Lib.hid (validS_no (HN2.out (by omega) hxy))
            clear HN2 HS HN3
            go_wp2_with (fail)
            obtain ⟨S, hcl, hS0, k0, k1, k2, k3, kB⟩ := clw4 ⟨s0, s1, s2, e2, HB2.out⟩
            have hne : Nonempty (Clw S) := ⟨⟨_, hS0⟩⟩
            clear s0 s1 s2 e2 HB2
            refine wp_region_clw S (by kernel_rfl) (by kernel_rfl) hS0 ?_
            repeat (go_big_quiet_step (first
              | (go_at_call 104; exact Clw.call hcl _ (HVS.out _))
              | (go_at_call 103; exact Clw.call hcl _ (HAR.out _))))
            refine wpQuiet_nil ?_
            intro _ hw'
            obtain ⟨p, rfl⟩ := hw'
            go_wp2_with (fail)
            go_ret
            exact ⟨retB HV.out.symm, kB p⟩
          · have hxd : decide (x ≤ pv) = false := by simpa using hxy
            by_cases hz : arc ≤ room
            · have hd : decide (room < arc) = false := by simpa using hz
              have HG := Lib.hid (HS.out rfl (fun _ => by omega) hz)
              clear hz HS HN3 HN2 hxy
              go_wp2_with (fail)
              obtain ⟨S, hcl, hS0, k0, k1, k2, k3, kB⟩ := clw4 ⟨s0, s1, s2, e2, HB2.out⟩
              have hne : Nonempty (Clw S) := ⟨⟨_, hS0⟩⟩
              clear s0 s1 s2 e2 HB2
              refine wp_region_clw S (by kernel_rfl) (by kernel_rfl) hS0 ?_
              repeat (go_big_quiet_step (first
                | (go_at_call 104; exact Clw.call hcl _ (HVS.out _))
                | (go_at_call 103; exact Clw.call hcl _ (HAR.out _))))
              refine wpQuiet_nil ?_
              intro _ hw'
              obtain ⟨p, rfl⟩ := hw'
              go_wp2_with (fail)
              go_roundw
              case rel => exact ⟨j + 1 + 1, by omega, by go_num, HG.out, kB p⟩
              case measure => simp [intOf]; omega
            · have hd1 : room < arc := by omega
              have HV := Lib.hid (validS_no (HN3.out hd1))
              clear hz HS HN3 HN2 hxy
              go_wp2_with (fail)
              obtain ⟨S, hcl, hS0, k0, k1, k2, k3, kB⟩ := clw4 ⟨s0, s1, s2, e2, HB2.out⟩
              have hne : Nonempty (Clw S) := ⟨⟨_, hS0⟩⟩
              clear s0 s1 s2 e2 HB2
              refine wp_region_clw S (by kernel_rfl) (by kernel_rfl) hS0 ?_
              repeat (go_big_quiet_step (first
                | (go_at_call 104; exact Clw.call hcl _ (HVS.out _))
                | (go_at_call 103; exact Clw.call hcl _ (HAR.out _))))
              refine wpQuiet_nil ?_
              intro _ hw'
              obtain ⟨p, rfl⟩ := hw'
              go_wp2_with (fail)
              go_ret
              exact ⟨retB HV.out.symm, kB p⟩
    · obtain rfl : k = n := by omega
      have HV := Lib.hid (validS_yes (valid_of_imp (ps := ps) (by have := HN.out; omega) (by rw [← HN.out]; exact HJ.out)))
      clear hlt hbel
      go_wp2_with (fail)
      go_ret
      exact ⟨retB HV.out.symm, HB.out⟩
theorem okay_any (v : Value) (ps : List Sec) (w : World) (h : SecAre w v ps) :
    Calls Tryz.prog 63 #[v] w fun e w' => e = .returned (.bool (validS ps)) ∧ Below w.heap.size w w' := by
  obtain ⟨a, c, rfl, h⟩ := h
  by_cases hl : ps.length ≤ 12
  · by_cases h0 : ps.length = 0
    · obtain rfl := List.length_eq_zero_iff.1 h0
      have HV := Lib.hid validS_nil
      clear h h0 hl
      go_enter Tryz.func63, Tryz.ntmps63
      go_wp2
      go_rounds 1
      go_ret
      exact ⟨retB HV.out.symm, Below.refl _ _⟩
    · obtain ⟨b, off, rfl, hc⟩ := h.2.resolve_left (by intro e; rw [e] at h0; exact h0 rfl)
      exact okay_row b off c ps w (by omega) hl hc
  · have HV := Lib.hid (validS_no (no_long (ps := ps) (by omega)))
    have h12 : (12 : Int) < (ps.length : Int) := by omega
    clear h hl
    go_enter Tryz.func63, Tryz.ntmps63
    go_wp2
    go_ret
    exact ⟨retB HV.out.symm, Below.refl _ _⟩
end Go.Proofs.YtlelcecbpahliaaGreatDoor
