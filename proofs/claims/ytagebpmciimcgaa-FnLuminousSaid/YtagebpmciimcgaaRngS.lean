/- The model's ranges. -/
import Derived.Test.YtagebpmciimcgaaRngI
import Derived.Test.YtagebpmciimcgaaLogS
import Derived.Test.YtagebpmciimcgaaCalT
namespace Go.Proofs.Ytagebpmciimcgaa
open Go.ChangeShapes Go.WideShapes Go.ChangeAt Go.RowKit Pm

theorem shgt_any (d : Int) (w : World) :
    Calls Try.prog 48 #[.int .i64 d] w fun e w' => e = .returned (.bool (inB 0 3000 [d])) ∧ w = w' := by
  have HI := Lib.hid (fun w => in_any d 0 3000 w)
  go_enter Try.func48, Try.ntmps48
  go_wp2_with (go_at_call 51; refine (HI.out _).mono ?_; rintro e w' ⟨rfl, rfl⟩)
  go_ret
  exact ⟨rfl, rfl⟩

theorem sdis_any (d : Int) (w : World) :
    Calls Try.prog 53 #[.int .i64 d] w fun e w' => e = .returned (.bool (inB 1 100000 [d])) ∧ w = w' := by
  have HI := Lib.hid (fun w => in_any d 1 100000 w)
  go_enter Try.func53, Try.ntmps53
  go_wp2_with (go_at_call 51; refine (HI.out _).mono ?_; rintro e w' ⟨rfl, rfl⟩)
  go_ret
  exact ⟨rfl, rfl⟩

theorem sint_any (d : Int) (w : World) :
    Calls Try.prog 54 #[.int .i64 d] w fun e w' => e = .returned (.bool (inB 1 100000000 [d])) ∧ w = w' := by
  have HI := Lib.hid (fun w => in_any d 1 100000000 w)
  go_enter Try.func54, Try.ntmps54
  go_wp2_with (go_at_call 51; refine (HI.out _).mono ?_; rintro e w' ⟨rfl, rfl⟩)
  go_ret
  exact ⟨rfl, rfl⟩

theorem sair_any (d : Int) (w : World) :
    Calls Try.prog 55 #[.int .i64 d] w fun e w' => e = .returned (.bool (inB 1 100000 [d])) ∧ w = w' := by
  have HI := Lib.hid (fun w => in_any d 1 100000 w)
  go_enter Try.func55, Try.ntmps55
  go_wp2_with (go_at_call 51; refine (HI.out _).mono ?_; rintro e w' ⟨rfl, rfl⟩)
  go_ret
  exact ⟨rfl, rfl⟩

theorem shor_any (h : Int) (w : World) (h0 : 0 ≤ h) (h1 : h ≤ 3001) :
    Calls Try.prog 49 #[.int .i64 h] w fun e w' => e = .returned (.int .i64 (horV h)) ∧ w = w' := by
  have HR := Lib.hid (show Calls Try.prog 65 #[.int .i64 (1483790 * h)] w fun e w' => e = .returned (.int .i64 (horV h)) ∧ w = w' from by
    refine (sroot_any _ w (by omega)).mono ?_
    rintro e w1 ⟨r, hr, rfl, rfl⟩
    exact ⟨ret_i (hr.one (horV_root h0 h1)), rfl⟩)
  generalize horV h = v at *
  go_enter Try.func49, Try.ntmps49
  go_wp2_with (go_at_call 65; refine HR.out.mono ?_; rintro e w' ⟨rfl, rfl⟩)
  go_ret
  exact ⟨rfl, rfl⟩

theorem stenlog_any (n a c : Int) (w : World) (h : LogIs n a c) :
    Calls Try.prog 24 #[.int .i64 n] w (RetP a c w) := by
  rcases h with ⟨h, rfl, rfl⟩ | ⟨h, rfl, rfl⟩
  · have HI := Lib.hid (fun w => h ▸ in_any n 1 1000000000000 w)
    clear h
    go_enter Try.func24, Try.ntmps24
    go_wp2_with (go_at_call 51; refine (HI.out _).mono ?_; rintro e w' ⟨rfl, rfl⟩)
    go_ret2
    exact ⟨rfl, Below.refl _ _⟩
  · have hb := inB_yes h
    have HI := Lib.hid (fun w => h ▸ in_any n 1 1000000000000 w)
    have HL := Lib.hid (fun w => slog_any n w hb.1 hb.2)
    generalize logV n = v at *
    clear h
    go_enter Try.func24, Try.ntmps24
    go_wp2_with (first
      | (go_at_call 51; refine (HI.out _).mono ?_; rintro e w' ⟨rfl, rfl⟩)
      | (go_at_call 52; refine (HL.out _).mono ?_; rintro e w' ⟨rfl, rfl⟩))
    go_ret2
    exact ⟨rfl, Below.refl _ _⟩

theorem shorizon_any (n a c : Int) (w : World) (h : HorIs n a c) :
    Calls Try.prog 25 #[.int .i64 n] w (RetP a c w) := by
  rcases h with ⟨h, rfl, rfl⟩ | ⟨h, rfl, rfl⟩
  · have HI := Lib.hid (fun w => h ▸ shgt_any n w)
    clear h
    go_enter Try.func25, Try.ntmps25
    go_wp2_with (go_at_call 48; refine (HI.out _).mono ?_; rintro e w' ⟨rfl, rfl⟩)
    go_ret2
    exact ⟨rfl, Below.refl _ _⟩
  · have hb := inB_yes h
    have HI := Lib.hid (fun w => h ▸ shgt_any n w)
    have HL := Lib.hid (fun w => shor_any n w hb.1 (by omega))
    generalize horV n = v at *
    clear h
    go_enter Try.func25, Try.ntmps25
    go_wp2_with (first
      | (go_at_call 48; refine (HI.out _).mono ?_; rintro e w' ⟨rfl, rfl⟩)
      | (go_at_call 49; refine (HL.out _).mono ?_; rintro e w' ⟨rfl, rfl⟩))
    go_ret2
    exact ⟨rfl, Below.refl _ _⟩

theorem sgeo_no (h e : Int) (w : World) (hq : (inB 0 3000 [h] && inB 0 3000 [e]) = false) :
    Calls Try.prog 22 #[.int .i64 h, .int .i64 e] w (RetP 0 2 w) := by
  cases h1 : inB 0 3000 [h]
  · have H1 := Lib.hid (fun w => h1 ▸ shgt_any h w)
    clear hq h1
    go_enter Try.func22, Try.ntmps22
    go_wp2_with (go_at_call 48; with_reducible refine (H1.out _).mono ?_; rintro e w1 ⟨rfl, rfl⟩)
    go_ret2
    exact ⟨rfl, Below.refl _ _⟩
  · rw [h1, Bool.true_and] at hq
    have H1 := Lib.hid (fun w => h1 ▸ shgt_any h w)
    have H2 := Lib.hid (fun w => hq ▸ shgt_any e w)
    clear hq h1
    go_enter Try.func22, Try.ntmps22
    go_wp2_with (go_at_call 48; with_reducible refine (H1.out _).mono ?_; rintro e w1 ⟨rfl, rfl⟩; refine Hid.out ?_)
    refine Lib.hid ?_
    go_wp2_with (go_at_call 48; with_reducible refine (H2.out _).mono ?_; rintro e w1 ⟨rfl, rfl⟩)
    go_ret2
    exact ⟨rfl, Below.refl _ _⟩

theorem seye_no (h D : Int) (w : World) (hq : (inB 0 3000 [h] && inB 1 100000 [D]) = false) :
    Calls Try.prog 27 #[.int .i64 h, .int .i64 D] w (RetP 0 2 w) := by
  cases h1 : inB 0 3000 [h]
  · have H1 := Lib.hid (fun w => h1 ▸ shgt_any h w)
    clear hq h1
    go_enter Try.func27, Try.ntmps27
    go_wp2_with (go_at_call 48; with_reducible refine (H1.out _).mono ?_; rintro e w1 ⟨rfl, rfl⟩)
    go_ret2
    exact ⟨rfl, Below.refl _ _⟩
  · rw [h1, Bool.true_and] at hq
    have H1 := Lib.hid (fun w => h1 ▸ shgt_any h w)
    have H2 := Lib.hid (fun w => hq ▸ sdis_any D w)
    clear hq h1
    go_enter Try.func27, Try.ntmps27
    go_wp2_with (go_at_call 48; with_reducible refine (H1.out _).mono ?_; rintro e w1 ⟨rfl, rfl⟩; refine Hid.out ?_)
    refine Lib.hid ?_
    go_wp2_with (go_at_call 53; with_reducible refine (H2.out _).mono ?_; rintro e w1 ⟨rfl, rfl⟩)
    go_ret2
    exact ⟨rfl, Below.refl _ _⟩

theorem slum_no (I V : Int) (w : World) (hq : (inB 1 100000000 [I] && inB 1 100000 [V]) = false) :
    Calls Try.prog 28 #[.int .i64 I, .int .i64 V] w (RetP 0 2 w) := by
  cases h1 : inB 1 100000000 [I]
  · have H1 := Lib.hid (fun w => h1 ▸ sint_any I w)
    clear hq h1
    go_enter Try.func28, Try.ntmps28
    go_wp2_with (go_at_call 54; with_reducible refine (H1.out _).mono ?_; rintro e w1 ⟨rfl, rfl⟩)
    go_ret2
    exact ⟨rfl, Below.refl _ _⟩
  · rw [h1, Bool.true_and] at hq
    have H1 := Lib.hid (fun w => h1 ▸ sint_any I w)
    have H2 := Lib.hid (fun w => hq ▸ sair_any V w)
    clear hq h1
    go_enter Try.func28, Try.ntmps28
    go_wp2_with (go_at_call 54; with_reducible refine (H1.out _).mono ?_; rintro e w1 ⟨rfl, rfl⟩; refine Hid.out ?_)
    refine Lib.hid ?_
    go_wp2_with (go_at_call 55; with_reducible refine (H2.out _).mono ?_; rintro e w1 ⟨rfl, rfl⟩)
    go_ret2
    exact ⟨rfl, Below.refl _ _⟩

theorem sity_no (D V : Int) (w : World) (hq : (inB 1 100000 [D] && inB 1 100000 [V]) = false) :
    Calls Try.prog 31 #[.int .i64 D, .int .i64 V] w (RetP 0 2 w) := by
  cases h1 : inB 1 100000 [D]
  · have H1 := Lib.hid (fun w => h1 ▸ sdis_any D w)
    clear hq h1
    go_enter Try.func31, Try.ntmps31
    go_wp2_with (go_at_call 53; with_reducible refine (H1.out _).mono ?_; rintro e w1 ⟨rfl, rfl⟩)
    go_ret2
    exact ⟨rfl, Below.refl _ _⟩
  · rw [h1, Bool.true_and] at hq
    have H1 := Lib.hid (fun w => h1 ▸ sdis_any D w)
    have H2 := Lib.hid (fun w => hq ▸ sair_any V w)
    clear hq h1
    go_enter Try.func31, Try.ntmps31
    go_wp2_with (go_at_call 53; with_reducible refine (H1.out _).mono ?_; rintro e w1 ⟨rfl, rfl⟩; refine Hid.out ?_)
    refine Lib.hid ?_
    go_wp2_with (go_at_call 55; with_reducible refine (H2.out _).mono ?_; rintro e w1 ⟨rfl, rfl⟩)
    go_ret2
    exact ⟨rfl, Below.refl _ _⟩

theorem svis_no (I D : Int) (w : World) (hq : (inB 1 100000000 [I] && inB 1 100000 [D]) = false) :
    Calls Try.prog 32 #[.int .i64 I, .int .i64 D] w (RetP 0 2 w) := by
  cases h1 : inB 1 100000000 [I]
  · have H1 := Lib.hid (fun w => h1 ▸ sint_any I w)
    clear hq h1
    go_enter Try.func32, Try.ntmps32
    go_wp2_with (go_at_call 54; with_reducible refine (H1.out _).mono ?_; rintro e w1 ⟨rfl, rfl⟩)
    go_ret2
    exact ⟨rfl, Below.refl _ _⟩
  · rw [h1, Bool.true_and] at hq
    have H1 := Lib.hid (fun w => h1 ▸ sint_any I w)
    have H2 := Lib.hid (fun w => hq ▸ sdis_any D w)
    clear hq h1
    go_enter Try.func32, Try.ntmps32
    go_wp2_with (go_at_call 54; with_reducible refine (H1.out _).mono ?_; rintro e w1 ⟨rfl, rfl⟩; refine Hid.out ?_)
    refine Lib.hid ?_
    go_wp2_with (go_at_call 53; with_reducible refine (H2.out _).mono ?_; rintro e w1 ⟨rfl, rfl⟩)
    go_ret2
    exact ⟨rfl, Below.refl _ _⟩

theorem sgeo_any (h e a c : Int) (w : World) (hg : GeoIs h e a c) :
    Calls Try.prog 22 #[.int .i64 h, .int .i64 e] w (RetP a c w) := by
  rcases hg with ⟨hg, rfl, rfl⟩ | ⟨hg, rfl, rfl⟩
  · exact sgeo_no h e w hg
  · have hb1 := inB_yes (and_yes hg).1
    have hb2 := inB_yes (and_yes hg).2
    have H1 := Lib.hid (fun w => (and_yes hg).1 ▸ shgt_any h w)
    have H2 := Lib.hid (fun w => (and_yes hg).2 ▸ shgt_any e w)
    have HL := fun w => shor_any h w hb1.1 (by omega)
    have HE := fun w => shor_any e w hb2.1 (by omega)
    obtain ⟨x0, x1⟩ := hor_bd hb1.1 (show h ≤ 3001 by omega)
    obtain ⟨y0, y1⟩ := hor_bd hb2.1 (show e ≤ 3001 by omega)
    generalize horV h = x at *
    generalize horV e = y at *
    have HL := Lib.hid HL
    have HE := Lib.hid HE
    clear hg
    go_enter Try.func22, Try.ntmps22
    go_wp2_with (go_at_call 48; with_reducible refine (H1.out _).mono ?_; rintro e w' ⟨rfl, rfl⟩; refine Hid.out ?_)
    refine Lib.hid ?_
    go_wp2_with (first
      | (go_at_call 48; with_reducible refine (H2.out _).mono ?_; rintro e w' ⟨rfl, rfl⟩)
      | (go_at_call 49; with_reducible refine (HL.out _).mono ?_; rintro e w' ⟨rfl, rfl⟩; refine Hid.out ?_))
    refine Lib.hid ?_
    go_wp2_with (go_at_call 49; with_reducible refine (HE.out _).mono ?_; rintro e w' ⟨rfl, rfl⟩)
    go_ret2
    exact ⟨rfl, Below.refl _ _⟩

theorem eye_hit {h D a c : Int} {k : Nat} (hm : LeastIs (eyeB h D) 0 3000 a c) (hk : k ≤ 3000) (h1 : ∀ t : Nat, t < k → eyeB h D t = false) (h2 : eyeB h D k = true) : (k : Int) = a ∧ (0 : Int) = c := by
  obtain ⟨r, hl, hr⟩ := hm
  have e := hl.one ⟨by omega, by omega, fun t q1 q2 => by
    have := h1 t.toNat (by omega)
    rw [show ((t.toNat : Nat) : Int) = t by omega] at this
    exact this, fun t q1 q2 => eye_mono (by omega) q1 h2⟩
  rcases hr with ⟨q, e1, e2⟩ | ⟨q, e1, e2⟩ <;> omega
theorem eye_miss {h D a c : Int} {k : Nat} (hm : LeastIs (eyeB h D) 0 3000 a c) (hk : k = 3001) (h1 : ∀ t : Nat, t < k → eyeB h D t = false) : (0 : Int) = a ∧ (3 : Int) = c := by
  obtain ⟨r, hl, hr⟩ := hm
  have e := hl.one (s := 3001) ⟨by omega, by omega, fun t q1 q2 => by
    have := h1 t.toNat (by omega)
    rw [show ((t.toNat : Nat) : Int) = t by omega] at this
    exact this, fun t q1 q2 => by omega⟩
  rcases hr with ⟨q, e1, e2⟩ | ⟨q, e1, e2⟩ <;> omega

set_option maxHeartbeats 1000000 in
theorem seyefor_any (h D a c : Int) (w : World) (hl : EyeIs h D a c) :
    Calls Try.prog 27 #[.int .i64 h, .int .i64 D] w (RetP a c w) := by
  rcases hl with ⟨hg, rfl, rfl⟩ | ⟨hg, hm⟩
  · exact seye_no h D w hg
  · have hb1 := inB_yes (and_yes hg).1
    have hb2 := inB_yes (and_yes hg).2
    have H1 := Lib.hid (fun w => (and_yes hg).1 ▸ shgt_any h w)
    have H2 := Lib.hid (fun w => (and_yes hg).2 ▸ sdis_any D w)
    have HL := fun w => shor_any h w hb1.1 (by omega)
    have HY := Lib.hid (fun (k : Nat) w (hk : k ≤ 3000) => shor_any (k : Int) w (by omega) (by omega))
    have HV := fun t => show eyeB h D t = decide (D ≤ horV h + horV t) from rfl
    obtain ⟨x0, x1⟩ := hor_bd hb1.1 (show h ≤ 3001 by omega)
    generalize horV h = x at *
    have HL := Lib.hid HL
    have HV := Lib.hid HV
    have HM := Lib.hid hm
    clear hg hm
    go_enter Try.func27, Try.ntmps27
    go_wp2_with (first
      | (go_at_call 48; with_reducible refine (H1.out _).mono ?_; rintro e w' ⟨rfl, rfl⟩)
      | (go_at_call 53; with_reducible refine (H2.out _).mono ?_; rintro e w' ⟨rfl, rfl⟩))
    go_loop [6] (fun s => ∃ k : Nat, s = .int .i64 k ∧ k ≤ 3001 ∧ Hid (∀ t : Nat, t < k → eyeB h D t = false)) (fun s => 3001 - (intOf s).toNat)
    case atStart => exact ⟨0, rfl, by omega, Lib.hid (fun t ht => absurd ht (Nat.not_lt_zero _))⟩
    case round =>
      obtain ⟨k, rfl, hk, HK⟩ := hrel
      by_cases hlt : k ≤ 3000
      · obtain ⟨y0, y1⟩ := hor_bd (show 0 ≤ (k : Int) by omega) (show (k : Int) ≤ 3001 by omega)
        have HE := fun w => HY.out k w hlt
        have HW := HV.out k
        generalize horV k = y at *
        have HE := Lib.hid HE
        by_cases hc : D ≤ x + y
        · have HQ := Lib.hid (eye_hit HM.out hlt HK.out (by rw [HW]; simpa using hc))
          clear HW
          go_wp2_with (go_at_call 49; with_reducible refine (HL.out _).mono ?_; rintro e w' ⟨rfl, rfl⟩; refine Hid.out ?_)
          refine Lib.hid ?_
          go_wp2_with (go_at_call 49; with_reducible refine (HE.out _).mono ?_; rintro e w' ⟨rfl, rfl⟩)
          go_ret2
          exact ⟨retII HQ.out.1 HQ.out.2, Below.refl _ _⟩
        · have HQ := Lib.hid (show eyeB h D k = false by rw [HW]; simpa using hc)
          clear HW
          go_wp2_with (go_at_call 49; with_reducible refine (HL.out _).mono ?_; rintro e w' ⟨rfl, rfl⟩; refine Hid.out ?_)
          refine Lib.hid ?_
          go_wp2_with (go_at_call 49; with_reducible refine (HE.out _).mono ?_; rintro e w' ⟨rfl, rfl⟩)
          go_round
          case rel => exact ⟨k + 1, by go_num, by omega, Lib.hid (fun t ht => by
            by_cases e : t = k
            · rw [e]; exact HQ.out
            · exact HK.out t (by omega))⟩
          case measure => simp [intOf]; omega
      · have HQ := Lib.hid (eye_miss HM.out (by omega) HK.out)
        go_wp2
        go_ret2
        exact ⟨retII HQ.out.1 HQ.out.2, Below.refl _ _⟩

set_option maxHeartbeats 1000000 in
theorem slumin_any (I V a : Int) (w : World) (hI : 1 ≤ I ∧ I ≤ 100000000) (hV : 1 ≤ V ∧ V ≤ 100000) (hm : Most (seenB I V) 100000 a) :
    Calls Try.prog 56 #[.int .i64 I, .int .i64 V] w fun e w' => e = .returned (.int .i64 a) ∧ Below w.heap.size w w' := by
    have HF := Lib.hid (fun t W (t0 : 1 ≤ t) (t1 : t ≤ 100001) => sseen_any I V t W hI.1 (by omega) t0 t1 hV.1 (by omega))
    have MO := Lib.hid (fun a b h1 h2 h3 h4 => lum_mono (I := I) hV.1 a b h1 h2 h3 h4)
    have HM := Lib.hid hm
    clear hm
    go_enter Try.func56, Try.ntmps56
    go_wp2
    go_loopg [5, 6] 100001 (fun kx s5 s6 wr => ∃ (lo hi : Int), s5 = .int .i64 lo ∧ s6 = .int .i64 hi ∧ 0 ≤ lo ∧ lo < hi ∧ hi ≤ 100001 ∧ hi - lo ≤ kx ∧ Hid (Below w.heap.size w wr) ∧
      Hid ((∀ t, 1 ≤ t → t ≤ lo → seenB I V t = true) ∧ (∀ t, hi ≤ t → t ≤ 100000 → seenB I V t = false)))
    case atStart => exact ⟨0, 100001, rfl, rfl, by omega, by omega, by omega, by omega, Lib.hid (Below.refl _ _), Lib.hid ⟨fun t h1 h2 => by omega, fun t h1 h2 => by omega⟩⟩
    case round =>
      obtain ⟨lo, hi, rfl, rfl, l0, lh, hn, hg, HB, J⟩ := hrel
      by_cases hlt : 1 < hi - lo
      · have hc := HF.out ((lo + hi) / 2) wr (by omega) (by omega)
        cases hp : seenB I V ((lo + hi) / 2) <;> rw [hp] at hc
        · have HP := Lib.hid hp
          have HC := Lib.hid hc
          clear hp hc
          go_wp2_with (go_at_call 57; refine HC.out.mono ?_; rintro e w1 ⟨rfl, hb⟩)
          go_roundg ((lo + hi) / 2 - lo).toNat
          case measure => omega
          case rel => exact ⟨lo, (lo + hi) / 2, rfl, rfl, l0, by omega, by omega, by omega, Lib.hid (Below.next HB.out hb), Lib.hid ⟨J.out.1, fun t q1 q2 => (by
            cases h : seenB I V t with
            | false => rfl
            | true => rw [MO.out ((lo + hi) / 2) t (by omega) q1 q2 h] at HP; cases HP.out)⟩⟩
        · have HP := Lib.hid hp
          have HC := Lib.hid hc
          clear hp hc
          go_wp2_with (go_at_call 57; refine HC.out.mono ?_; rintro e w1 ⟨rfl, hb⟩)
          go_roundg (hi - (lo + hi) / 2).toNat
          case measure => omega
          case rel => exact ⟨(lo + hi) / 2, hi, rfl, rfl, by omega, by omega, hn, by omega, Lib.hid (Below.next HB.out hb), Lib.hid ⟨fun t q1 q2 => MO.out t ((lo + hi) / 2) q1 q2 (by omega) HP.out, J.out.2⟩⟩
      · have hhi : hi = lo + 1 := by omega
        have HQ := Lib.hid (HM.out.one (s := lo) ⟨l0, by omega, J.out.1, fun t q1 q2 => J.out.2 t (by omega) q2⟩)
        clear hhi
        go_wp2
        go_ret
        exact ⟨ret_i HQ.out.symm, HB.out⟩

theorem sluminous_any (I V a c : Int) (w : World) (hl : LumIs I V a c) :
    Calls Try.prog 28 #[.int .i64 I, .int .i64 V] w (RetP a c w) := by
  rcases hl with ⟨hg, rfl, rfl⟩ | ⟨hg, hm, rfl⟩
  · exact slum_no I V w hg
  · have hb1 := inB_yes (and_yes hg).1
    have hb2 := inB_yes (and_yes hg).2
    have H1 := Lib.hid (fun w => (and_yes hg).1 ▸ sint_any I w)
    have H2 := Lib.hid (fun w => (and_yes hg).2 ▸ sair_any V w)
    have HL := Lib.hid (fun w => slumin_any I V a w hb1 hb2 hm)
    clear hg hm
    go_enter Try.func28, Try.ntmps28
    go_wp2_with (first
      | (go_at_call 54; refine (H1.out _).mono ?_; rintro e w' ⟨rfl, rfl⟩)
      | (go_at_call 55; refine (H2.out _).mono ?_; rintro e w' ⟨rfl, rfl⟩)
      | (go_at_call 56; refine (HL.out _).mono ?_; rintro e w' ⟨rfl, hb⟩))
    go_ret2
    exact ⟨rfl, hb⟩
theorem snominal_any (I a c : Int) (w : World) (hl : LumIs I 18520 a c) :
    Calls Try.prog 29 #[.int .i64 I] w (RetP a c w) := by
  have h2 : inB 1 100000 [(18520 : Int)] = true := by decide
  rcases hl with ⟨hg, rfl, rfl⟩ | ⟨hg, hm, rfl⟩
  · rw [h2, Bool.and_true] at hg
    have H1 := Lib.hid (fun w => hg ▸ sint_any I w)
    clear hg
    go_enter Try.func29, Try.ntmps29
    go_wp2_with (go_at_call 54; refine (H1.out _).mono ?_; rintro e w' ⟨rfl, rfl⟩)
    go_ret2
    exact ⟨rfl, Below.refl _ _⟩
  · have hb1 := inB_yes (and_yes hg).1
    have H1 := Lib.hid (fun w => (and_yes hg).1 ▸ sint_any I w)
    have HL := Lib.hid (fun w => slumin_any I 18520 a w hb1 (by omega) hm)
    clear hg hm
    go_enter Try.func29, Try.ntmps29
    go_wp2_with (first
      | (go_at_call 54; refine (H1.out _).mono ?_; rintro e w' ⟨rfl, rfl⟩)
      | (go_at_call 56; refine (HL.out _).mono ?_; rintro e w' ⟨rfl, hb⟩))
    go_ret2
    exact ⟨rfl, hb⟩

set_option maxHeartbeats 1000000 in
theorem sintensity_any (D V a c : Int) (w : World) (hl : IntIs D V a c) :
    Calls Try.prog 31 #[.int .i64 D, .int .i64 V] w (RetP a c w) := by
  rcases hl with ⟨hg, rfl, rfl⟩ | ⟨hg, hm⟩
  · exact sity_no D V w hg
  · have hb1 := inB_yes (and_yes hg).1
    have hb2 := inB_yes (and_yes hg).2
    have H1 := Lib.hid (fun w => (and_yes hg).1 ▸ sdis_any D w)
    have H2 := Lib.hid (fun w => (and_yes hg).2 ▸ sair_any V w)
    have HF := Lib.hid (fun t W (t0 : 1 ≤ t) (t1 : t ≤ 100000001) => sseen_any t V D W t0 t1 hb1.1 (by omega) hb2.1 (by omega))
    have MO := Lib.hid (show ∀ a b, 1 ≤ a → a ≤ b → b ≤ 100000000 → seenB a V D = true → seenB b V D = true from fun a b h1 h2 h3 h4 => seen_I h1 h2 (by omega) h4)
    have HM := Lib.hid hm
    clear hg hm
    go_enter Try.func31, Try.ntmps31
    go_wp2_with (first
      | (go_at_call 53; refine (H1.out _).mono ?_; rintro e w' ⟨rfl, rfl⟩)
      | (go_at_call 55; refine (H2.out _).mono ?_; rintro e w' ⟨rfl, rfl⟩))
    go_loopg [6, 7] 100000001 (fun kx s5 s6 wr => ∃ (lo hi : Int), s5 = .int .i64 lo ∧ s6 = .int .i64 hi ∧ 0 ≤ lo ∧ lo < hi ∧ hi ≤ 100000001 ∧ hi - lo ≤ kx ∧ Hid (Below w.heap.size w wr) ∧
      Hid ((∀ t, 1 ≤ t → t ≤ lo → seenB t V D = false) ∧ (∀ t, hi ≤ t → t ≤ 100000000 → seenB t V D = true)))
    case atStart => exact ⟨0, 100000001, rfl, rfl, by omega, by omega, by omega, by omega, Lib.hid (Below.refl _ _), Lib.hid ⟨fun t h1 h2 => by omega, fun t h1 h2 => by omega⟩⟩
    case round =>
      obtain ⟨lo, hi, rfl, rfl, l0, lh, hn, hg, HB, J⟩ := hrel
      by_cases hlt : 1 < hi - lo
      · have hc := HF.out ((lo + hi) / 2) wr (by omega) (by omega)
        cases hp : seenB ((lo + hi) / 2) V D <;> rw [hp] at hc
        · have HP := Lib.hid hp
          have HC := Lib.hid hc
          clear hp hc
          go_wp2_with (go_at_call 57; refine HC.out.mono ?_; rintro e w1 ⟨rfl, hb⟩)
          go_roundg (hi - (lo + hi) / 2).toNat
          case measure => omega
          case rel => exact ⟨(lo + hi) / 2, hi, rfl, rfl, by omega, by omega, hn, by omega, Lib.hid (Below.next HB.out hb), Lib.hid ⟨fun t q1 q2 => (by
            cases h : seenB t V D with
            | false => rfl
            | true => rw [MO.out t ((lo + hi) / 2) q1 q2 (by omega) h] at HP; cases HP.out), J.out.2⟩⟩
        · have HP := Lib.hid hp
          have HC := Lib.hid hc
          clear hp hc
          go_wp2_with (go_at_call 57; refine HC.out.mono ?_; rintro e w1 ⟨rfl, hb⟩)
          go_roundg ((lo + hi) / 2 - lo).toNat
          case measure => omega
          case rel => exact ⟨lo, (lo + hi) / 2, rfl, rfl, l0, by omega, by omega, by omega, Lib.hid (Below.next HB.out hb), Lib.hid ⟨J.out.1, fun t q1 q2 => MO.out ((lo + hi) / 2) t (by omega) q1 q2 HP.out⟩⟩
      · have hhi : hi = lo + 1 := by omega
        obtain ⟨r, hl, hr⟩ := HM.out
        have e := hl.one (s := hi) ⟨by omega, by omega, fun t q1 q2 => J.out.1 t q1 (by omega), J.out.2⟩
        rcases hr with ⟨k, e1, e2⟩ | ⟨k, e1, e2⟩
        · have HE := Lib.hid (show hi = a ∧ (0 : Int) = c by omega)
          have k1 : hi ≤ 100000000 := by omega
          clear hl e e1 e2 k hhi
          go_wp2
          go_ret2
          exact ⟨retII HE.out.1 HE.out.2, HB.out⟩
        · have HE := Lib.hid (show (0 : Int) = a ∧ (3 : Int) = c by omega)
          have k1 : 100000000 < hi := by omega
          clear hl e e1 e2 k hhi
          go_wp2
          go_ret2
          exact ⟨retII HE.out.1 HE.out.2, HB.out⟩

set_option maxHeartbeats 1000000 in
theorem svisibility_any (I D a c : Int) (w : World) (hl : VisIs I D a c) :
    Calls Try.prog 32 #[.int .i64 I, .int .i64 D] w (RetP a c w) := by
  rcases hl with ⟨hg, rfl, rfl⟩ | ⟨hg, hm⟩
  · exact svis_no I D w hg
  · have hb1 := inB_yes (and_yes hg).1
    have hb2 := inB_yes (and_yes hg).2
    have H1 := Lib.hid (fun w => (and_yes hg).1 ▸ sint_any I w)
    have H2 := Lib.hid (fun w => (and_yes hg).2 ▸ sdis_any D w)
    have HF := Lib.hid (fun t W (t0 : 1 ≤ t) (t1 : t ≤ 100001) => sseen_any I t D W hb1.1 (by omega) hb2.1 (by omega) t0 t1)
    have MO := Lib.hid (show ∀ a b, 1 ≤ a → a ≤ b → b ≤ 100000 → seenB I a D = true → seenB I b D = true from fun a b h1 h2 h3 h4 => seen_V hb2.1 h1 h2 h4)
    have HM := Lib.hid hm
    clear hg hm
    go_enter Try.func32, Try.ntmps32
    go_wp2_with (first
      | (go_at_call 54; refine (H1.out _).mono ?_; rintro e w' ⟨rfl, rfl⟩)
      | (go_at_call 53; refine (H2.out _).mono ?_; rintro e w' ⟨rfl, rfl⟩))
    go_loopg [6, 7] 100001 (fun kx s5 s6 wr => ∃ (lo hi : Int), s5 = .int .i64 lo ∧ s6 = .int .i64 hi ∧ 0 ≤ lo ∧ lo < hi ∧ hi ≤ 100001 ∧ hi - lo ≤ kx ∧ Hid (Below w.heap.size w wr) ∧
      Hid ((∀ t, 1 ≤ t → t ≤ lo → seenB I t D = false) ∧ (∀ t, hi ≤ t → t ≤ 100000 → seenB I t D = true)))
    case atStart => exact ⟨0, 100001, rfl, rfl, by omega, by omega, by omega, by omega, Lib.hid (Below.refl _ _), Lib.hid ⟨fun t h1 h2 => by omega, fun t h1 h2 => by omega⟩⟩
    case round =>
      obtain ⟨lo, hi, rfl, rfl, l0, lh, hn, hg, HB, J⟩ := hrel
      by_cases hlt : 1 < hi - lo
      · have hc := HF.out ((lo + hi) / 2) wr (by omega) (by omega)
        cases hp : seenB I ((lo + hi) / 2) D <;> rw [hp] at hc
        · have HP := Lib.hid hp
          have HC := Lib.hid hc
          clear hp hc
          go_wp2_with (go_at_call 57; refine HC.out.mono ?_; rintro e w1 ⟨rfl, hb⟩)
          go_roundg (hi - (lo + hi) / 2).toNat
          case measure => omega
          case rel => exact ⟨(lo + hi) / 2, hi, rfl, rfl, by omega, by omega, hn, by omega, Lib.hid (Below.next HB.out hb), Lib.hid ⟨fun t q1 q2 => (by
            cases h : seenB I t D with
            | false => rfl
            | true => rw [MO.out t ((lo + hi) / 2) q1 q2 (by omega) h] at HP; cases HP.out), J.out.2⟩⟩
        · have HP := Lib.hid hp
          have HC := Lib.hid hc
          clear hp hc
          go_wp2_with (go_at_call 57; refine HC.out.mono ?_; rintro e w1 ⟨rfl, hb⟩)
          go_roundg ((lo + hi) / 2 - lo).toNat
          case measure => omega
          case rel => exact ⟨lo, (lo + hi) / 2, rfl, rfl, l0, by omega, by omega, by omega, Lib.hid (Below.next HB.out hb), Lib.hid ⟨J.out.1, fun t q1 q2 => MO.out ((lo + hi) / 2) t (by omega) q1 q2 HP.out⟩⟩
      · have hhi : hi = lo + 1 := by omega
        obtain ⟨r, hl, hr⟩ := HM.out
        have e := hl.one (s := hi) ⟨by omega, by omega, fun t q1 q2 => J.out.1 t q1 (by omega), J.out.2⟩
        rcases hr with ⟨k, e1, e2⟩ | ⟨k, e1, e2⟩
        · have HE := Lib.hid (show hi = a ∧ (0 : Int) = c by omega)
          have k1 : hi ≤ 100000 := by omega
          clear hl e e1 e2 k hhi
          go_wp2
          go_ret2
          exact ⟨retII HE.out.1 HE.out.2, HB.out⟩
        · have HE := Lib.hid (show (0 : Int) = a ∧ (3 : Int) = c by omega)
          have k1 : 100000 < hi := by omega
          clear hl e e1 e2 k hhi
          go_wp2
          go_ret2
          exact ⟨retII HE.out.1 HE.out.2, HB.out⟩

theorem rng_min (x y : Int) : minI x y = (if y < x then y else x) := by unfold minI; split <;> split <;> omega
set_option maxHeartbeats 1000000 in
theorem srangeof_any (I h e V a c : Int) (w : World) (hl : RngIs I h e V a c) :
    Calls Try.prog 33 #[.int .i64 I, .int .i64 h, .int .i64 e, .int .i64 V] w (RetP a c w) := by
  obtain ⟨x, y, k, l, h1, h2, h3⟩ := hl
  have HI := fun w => sint_any I w
  have HV := fun w => sair_any V w
  have HH := fun w => shgt_any h w
  have HE := fun w => shgt_any e w
  have hfail : (k ≠ 0 ∨ l ≠ 0) → (inB 1 100000000 [I] = false ∨ inB 0 3000 [h] = false ∨ inB 0 3000 [e] = false ∨ inB 1 100000 [V] = false) := by
    intro q
    rcases h1 with ⟨g, _, _⟩ | ⟨g, _, g1⟩
    · cases i : inB 1 100000000 [I]
      · exact .inl rfl
      · rw [i, Bool.true_and] at g
        exact .inr (.inr (.inr g))
    · rcases h2 with ⟨g2, _, _⟩ | ⟨_, _, g2⟩
      · cases i : inB 0 3000 [h]
        · exact .inr (.inl rfl)
        · rw [i, Bool.true_and] at g2
          exact .inr (.inr (.inl g2))
      · omega
  rcases h3 with ⟨rfl, rfl, h3, rfl⟩ | ⟨h3, rfl, rfl⟩
  · rcases h1 with ⟨_, _, g⟩ | ⟨g, g1, _⟩
    · omega
    · rcases h2 with ⟨_, _, g2⟩ | ⟨g2, g3, _⟩
      · omega
      · have hI := (and_yes g).1
        have hV := (and_yes g).2
        have hH := (and_yes g2).1
        have hE := (and_yes g2).2
        rw [hI] at HI
        rw [hV] at HV
        rw [hH] at HH
        rw [hE] at HE
        have bI := inB_yes hI
        have bV := inB_yes hV
        have bH := inB_yes hH
        have bE := inB_yes hE
        have HL := Lib.hid (fun w => slumin_any I V x w bI bV g1)
        have HX := fun w => shor_any h w bH.1 (by omega)
        have HY := fun w => shor_any e w bE.1 (by omega)
        obtain ⟨x0, x1⟩ := hor_bd bH.1 (show h ≤ 3001 by omega)
        obtain ⟨y0, y1⟩ := hor_bd bE.1 (show e ≤ 3001 by omega)
        generalize horV h = p at *
        generalize horV e = q at *
        have HM := fun w => smin_any x (p + q) w
        rw [rng_min, ← g3, ← h3] at HM
        have HX := Lib.hid HX
        have HY := Lib.hid HY
        have HM := Lib.hid (show ∀ w, Calls Try.prog 58 #[.int .i64 x, .int .i64 (p + q)] w fun e w' => e = .returned (.int .i64 a) ∧ w = w' from g3 ▸ HM)
        have HI := Lib.hid HI
        have HV := Lib.hid HV
        have HH := Lib.hid HH
        have HE := Lib.hid HE
        clear h3 g g1 g2 g3 hI hV hH hE hfail
        go_enter Try.func33, Try.ntmps33
        go_wp2_with (first
          | (go_at_call 54; with_reducible refine (HI.out _).mono ?_; rintro e w' ⟨rfl, rfl⟩)
          | (go_at_call 48; with_reducible refine (HH.out _).mono ?_; rintro e w' ⟨rfl, rfl⟩; refine Hid.out ?_))
        refine Lib.hid ?_
        go_wp2_with (first
          | (go_at_call 48; with_reducible refine (HE.out _).mono ?_; rintro e w' ⟨rfl, rfl⟩)
          | (go_at_call 55; with_reducible refine (HV.out _).mono ?_; rintro e w' ⟨rfl, rfl⟩)
          | (go_at_call 56; with_reducible refine (HL.out _).mono ?_; rintro e w' ⟨rfl, hb⟩)
          | (go_at_call 49; with_reducible refine (HX.out _).mono ?_; rintro e w' ⟨rfl, rfl⟩; refine Hid.out ?_))
        refine Lib.hid ?_
        go_wp2_with (first
          | (go_at_call 49; with_reducible refine (HY.out _).mono ?_; rintro e w' ⟨rfl, rfl⟩)
          | (go_at_call 58; with_reducible refine (HM.out _).mono ?_; rintro e w' ⟨rfl, rfl⟩))
        go_ret2
        exact ⟨rfl, hb⟩
  · have hf := hfail h3
    clear h1 h2 h3 hfail
    cases hI : inB 1 100000000 [I] <;> rw [hI] at HI
    · have HI := Lib.hid HI
      clear hf hI HV HH HE
      go_enter Try.func33, Try.ntmps33
      go_wp2_with (go_at_call 54; with_reducible refine (HI.out _).mono ?_; rintro e w' ⟨rfl, rfl⟩)
      go_ret2
      exact ⟨rfl, Below.refl _ _⟩
    · have HI := Lib.hid HI
      cases hH : inB 0 3000 [h] <;> rw [hH] at HH
      · have HH := Lib.hid HH
        clear hf hI hH HV HE
        go_enter Try.func33, Try.ntmps33
        go_wp2_with (first
          | (go_at_call 54; with_reducible refine (HI.out _).mono ?_; rintro e w' ⟨rfl, rfl⟩)
          | (go_at_call 48; with_reducible refine (HH.out _).mono ?_; rintro e w' ⟨rfl, rfl⟩))
        go_ret2
        exact ⟨rfl, Below.refl _ _⟩
      · have HH := Lib.hid HH
        cases hE : inB 0 3000 [e] <;> rw [hE] at HE
        · have HE := Lib.hid HE
          clear hf hI hH hE HV
          go_enter Try.func33, Try.ntmps33
          go_wp2_with (first
            | (go_at_call 54; with_reducible refine (HI.out _).mono ?_; rintro e w' ⟨rfl, rfl⟩)
            | (go_at_call 48; with_reducible refine (HH.out _).mono ?_; rintro e w' ⟨rfl, rfl⟩; refine Hid.out ?_))
          refine Lib.hid ?_
          go_wp2_with (first
            | (go_at_call 48; with_reducible refine (HE.out _).mono ?_; rintro e w' ⟨rfl, rfl⟩))
          go_ret2
          exact ⟨rfl, Below.refl _ _⟩
        · have HE := Lib.hid HE
          have hV : inB 1 100000 [V] = false := by
            rcases hf with q | q | q | q
            · rw [hI] at q; cases q
            · rw [hH] at q; cases q
            · rw [hE] at q; cases q
            · exact q
          rw [hV] at HV
          have HV := Lib.hid HV
          clear hf hI hH hE hV
          go_enter Try.func33, Try.ntmps33
          go_wp2_with (first
            | (go_at_call 54; with_reducible refine (HI.out _).mono ?_; rintro e w' ⟨rfl, rfl⟩)
            | (go_at_call 48; with_reducible refine (HH.out _).mono ?_; rintro e w' ⟨rfl, rfl⟩; refine Hid.out ?_))
          refine Lib.hid ?_
          go_wp2_with (first
            | (go_at_call 48; with_reducible refine (HE.out _).mono ?_; rintro e w' ⟨rfl, rfl⟩)
            | (go_at_call 55; with_reducible refine (HV.out _).mono ?_; rintro e w' ⟨rfl, rfl⟩))
          go_ret2
          exact ⟨rfl, Below.refl _ _⟩

end Go.Proofs.Ytagebpmciimcgaa