/- The library's division of 128 bits by 64 bits: its quotient. -/
import Derived.Test.YthccbipjmheoaaaKnuM
import Derived.Test.YthccbipjmheoaaaRootI
import Derived.WalkSmall
namespace Go.Proofs.Ythccbipjmheoaaa
open Go.ChangeShapes Go.WideShapes Go.ChangeAt Go.RowKit Pm

def DivQRet (hi lo y : Int) (w : World) (e : Ending) (w' : World) : Prop := ∃ q r, QuoIs (hi * 18446744073709551616 + lo) y q ∧ e = .returned (.tuple #[.int .u64 q, .int .u64 r]) ∧ Below w.heap.size w w'

theorem drewN_below (w : World) (n : Nat) : Below w.heap.size w (w.drewN n) := below_drewN (Below.refl _ _) n

theorem divq_low (lo y : Int) (w : World) (l0 : 0 ≤ lo) (l1 : lo ≤ 18446744073709551615) (y0 : 0 < y) (y1 : y ≤ 18446744073709551615) :
    Calls Try.prog 128 #[.int .u64 0, .int .u64 lo, .int .u64 y] w (DivQRet 0 lo y w) := by
  have hq := Lib.hid (QuoIs.div l0 y0)
  go_enter Try.func128, Try.ntmps128
  go_wp2
  go_quiet (fail)
  go_wp2
  go_ret2
  exact ⟨lo / y, lo % y, by rw [Int.zero_mul, Int.zero_add]; exact hq.out, rfl, drewN_below _ _⟩

theorem wrap_four {a v b u : Int} (h : a + v - b = u) (h0 : 0 ≤ u) (h1 : u ≤ 18446744073709551615) : IntKind.u64.wrap (IntKind.u64.wrap (IntKind.u64.wrap a + v) - IntKind.u64.wrap b) = u := by
  simp only [IntKind.wrap_u64]; omega

theorem two_wrap {u m : Int} (h0 : 0 ≤ m) (h1 : m ≤ u) (h2 : u ≤ 18446744073709551615) : IntKind.u64.wrap (u - IntKind.u64.wrap m) = u - m := by
  simp only [IntKind.wrap_u64]; omega

theorem digit_bd {y1 y0 u v q r : Int} (h : Heads y1 y0 u v) (d : Digit y1 y0 u v q r) (hq : q < 4294967296) : 0 ≤ q * y0 ∧ q * y0 ≤ 18446744065119617025 :=
  ⟨Int.mul_nonneg d.q0 h.a0, Int.le_trans (Int.mul_le_mul (show q ≤ 4294967295 by omega) (show y0 ≤ 4294967295 by have := h.b0; omega) h.a0 (by omega)) (by omega)⟩
theorem heads_next {y1 y0 u v q v0 : Int} (h : Heads y1 y0 u v) (k : QuoIs (u * 4294967296 + v) (y1 * 4294967296 + y0) q) (w0 : 0 ≤ v0) (w1 : v0 < 4294967296) : Heads y1 y0 (u * 4294967296 + v - q * (y1 * 4294967296 + y0)) v0 := by
  obtain ⟨a1, b1, a0, b0, u0, ub, vv0, vb⟩ := h
  obtain ⟨q0, k1, k2⟩ := k
  rw [Int.add_mul, Int.one_mul] at k2
  exact ⟨a1, b1, a0, b0, by omega, by omega, w0, w1⟩

set_option maxRecDepth 100000 in
set_option maxHeartbeats 4000000 in
theorem divq_core (hi lo y : Int) (s : Nat) (Y Y1 Y0 U L V1 V0 : Int) (w : World) (h0 : 0 < hi) (h1 : hi < y)
    (s1 : 1 ≤ s) (s2 : s ≤ 63) (L0 : Calls Try.prog 131 #[.int .u64 y] w fun e w' => e = .returned (.int .i64 (s : Int)) ∧ w' = w)
    (eY : IntKind.u64.wrap (y * 2 ^ s) = Y) (eY1 : Y / 4294967296 = Y1) (eY0 : bits .and .u64 Y 4294967295 = Y0)
    (eU : bits .or .u64 (IntKind.u64.wrap (hi * 2 ^ s)) (lo / 2 ^ (64 - s)) = U)
    (eL : IntKind.u64.wrap (lo * 2 ^ s) = L) (eV1 : L / 4294967296 = V1) (eV0 : bits .and .u64 L 4294967295 = V0)
    (hH : Heads Y1 Y0 U V1) (v0 : 0 ≤ V0) (v1 : V0 < 4294967296) (eYY : Y1 * 4294967296 + Y0 = Y) (yb : Y ≤ 18446744073709551615)
    (hfin : ∀ q1 q0, QuoIs (U * 4294967296 + V1) Y q1 → QuoIs ((U * 4294967296 + V1 - q1 * Y) * 4294967296 + V0) Y q0 → q0 < 4294967296 → QuoIs (hi * 18446744073709551616 + lo) y (q1 * 4294967296 + q0)) :
    Calls Try.prog 128 #[.int .u64 hi, .int .u64 lo, .int .u64 y] w (DivQRet hi lo y w) := by
  have HF := Lib.hid hfin
  have HH1 := Lib.hid hH
  have HL0 := Lib.hid L0
  obtain ⟨d1, d1b⟩ := Digit.first hH
  obtain ⟨a1, b1, a0, b0, u0, ub, vv0, vb⟩ := hH
  obtain ⟨Q1, eQ⟩ : ∃ Q, U / Y1 = Q := ⟨_, rfl⟩
  obtain ⟨M1, eM⟩ : ∃ M, Q1 * Y1 = M := ⟨_, rfl⟩
  rw [eQ] at d1 d1b
  rw [eM] at d1 d1b
  have HD1 := Lib.hid d1
  have M10 : 0 ≤ M1 := by rw [← eM]; exact Int.mul_nonneg d1.q0 (by omega)
  obtain ⟨q0, qB, r0, rs, _⟩ := d1
  have EYY := Lib.hid eYY
  clear hfin L0 rs eYY
  go_enter Try.func128, Try.ntmps128
  go_wp2_with (go_at_call 131; refine HL0.out.mono ?_; rintro e w' ⟨rfl, rfl⟩)
  go_loop [15, 16] (fun a b => ∃ Q R : Int, a = .int .u64 Q ∧ b = .int .u64 R ∧ Digit Y1 Y0 U V1 Q R ∧ R < 4294967296) (fun a _ => (intOf a).toNat)
  case atStart => exact ⟨Q1, U - M1, ret_v (by first | rfl | exact eQ), ret_v (by first | rfl | exact two_wrap (by omega) (by omega) (by omega)), HD1.out, d1b⟩
  case round =>
    obtain ⟨Q1, R1, rfl, rfl, hd1, hR1⟩ := hrel
    have HD1 := Lib.hid hd1
    obtain ⟨q01, qB1, r01, _, _⟩ := hd1
    by_cases c11 : 4294967296 ≤ Q1
    · obtain ⟨hq1, d21⟩ := HD1.out.less HH1.out (.inl c11)
      have HE1 := Lib.hid d21
      clear d21
      by_cases c21 : 4294967296 ≤ R1 + Y1
      · have HX1 := Lib.hid (HE1.out.last HH1.out (.inr ⟨by omega, c21⟩))
        obtain ⟨qi1, ql1⟩ := HX1.out
        have HK := heads_next HH1.out qi1 v0 v1
        rw [EYY.out] at qi1 HK
        have q01 := qi1.1
        have HQ1 := Lib.hid qi1
        clear qi1
        obtain ⟨U2, eU2⟩ : ∃ u, U * 4294967296 + V1 - (Q1 - 1) * Y = u := ⟨_, rfl⟩
        have EU2 := Lib.hid eU2
        rw [eU2] at HK
        have HH2 := Lib.hid HK
        obtain ⟨_, _, _, _, u20, u2b, _, _⟩ := HK
        rw [EYY.out] at u2b
        have eW := wrap_four eU2 u20 (by omega)
        obtain ⟨d2, d2b⟩ := Digit.first HH2.out
        obtain ⟨Q2, eQ2⟩ : ∃ Q, U2 / Y1 = Q := ⟨_, rfl⟩
        obtain ⟨M2, eM2⟩ : ∃ M, Q2 * Y1 = M := ⟨_, rfl⟩
        rw [eQ2] at d2 d2b
        rw [eM2] at d2 d2b
        have HD2 := Lib.hid d2
        have M20 : 0 ≤ M2 := by rw [← eM2]; exact Int.mul_nonneg d2.q0 (by omega)
        obtain ⟨q20, q2B, r20, _, _⟩ := d2
        clear eU2
        go_wp2_with (fail)
        go_loop [16, 18] (fun b a => ∃ Q R : Int, a = .int .u64 Q ∧ b = .int .u64 R ∧ Digit Y1 Y0 U2 V0 Q R ∧ R < 4294967296) (fun _ a => (intOf a).toNat)
        case atStart => exact ⟨Q2, U2 - M2, ret_v (by first | rfl | exact eQ2), ret_v (by first | rfl | exact two_wrap (by omega) (by omega) (by omega)), HD2.out, d2b⟩
        case round =>
          obtain ⟨Q2, R2, rfl, rfl, hd2, hR2⟩ := hrel
          have HD2 := Lib.hid hd2
          obtain ⟨q02, qB2, r02, _, _⟩ := hd2
          by_cases c12 : 4294967296 ≤ Q2
          · obtain ⟨hq2, d22⟩ := HD2.out.less HH2.out (.inl c12)
            have HE2 := Lib.hid d22
            clear d22
            by_cases c22 : 4294967296 ≤ R2 + Y1
            · have HX2 := Lib.hid (HE2.out.last HH2.out (.inr ⟨by omega, c22⟩))
              obtain ⟨qi2, ql2⟩ := HX2.out
              rw [EYY.out] at qi2
              have q02 := qi2.1
              have HZ := Lib.hid (HF.out (Q1 - 1) (Q2 - 1) HQ1.out (by rw [EU2.out]; exact qi2) ql2)
              clear qi2
              go_wp2
              go_ret2
              exact ⟨_, _, HZ.out, rfl, by go_grown⟩
            · go_wp2
              refine ⟨⟨Q2 - 1, R2 + Y1, ret_v (by first | rfl | omega), ret_v (by first | rfl | omega), HE2.out, by omega⟩, by simp only [intOf]; omega⟩
          · obtain ⟨m02, m12⟩ := digit_bd HH2.out HD2.out (by omega)
            obtain ⟨P2, eP2⟩ : ∃ P, Q2 * Y0 = P := ⟨_, rfl⟩
            rw [eP2] at m02 m12
            by_cases c32 : R2 * 4294967296 + V0 < P2
            · obtain ⟨hq2, d22⟩ := HD2.out.less HH2.out (.inr (by rw [eP2]; exact c32))
              have HE2 := Lib.hid d22
              clear d22
              by_cases c22 : 4294967296 ≤ R2 + Y1
              · have HX2 := Lib.hid (HE2.out.last HH2.out (.inr ⟨by omega, c22⟩))
                obtain ⟨qi2, ql2⟩ := HX2.out
                rw [EYY.out] at qi2
                have q02 := qi2.1
                have HZ := Lib.hid (HF.out (Q1 - 1) (Q2 - 1) HQ1.out (by rw [EU2.out]; exact qi2) ql2)
                clear qi2
                go_wp2
                go_ret2
                exact ⟨_, _, HZ.out, rfl, by go_grown⟩
              · go_wp2
                refine ⟨⟨Q2 - 1, R2 + Y1, ret_v (by first | rfl | omega), ret_v (by first | rfl | omega), HE2.out, by omega⟩, by simp only [intOf]; omega⟩
            · have HX2 := Lib.hid (HD2.out.last HH2.out (.inl (by rw [eP2]; omega)))
              obtain ⟨qi2, ql2⟩ := HX2.out
              rw [EYY.out] at qi2
              have q02 := qi2.1
              have HZ := Lib.hid (HF.out (Q1 - 1) Q2 HQ1.out (by rw [EU2.out]; exact qi2) ql2)
              clear qi2
              go_wp2
              go_ret2
              exact ⟨_, _, HZ.out, rfl, by go_grown⟩
      · go_wp2
        refine ⟨⟨Q1 - 1, R1 + Y1, ret_v (by first | rfl | omega), ret_v (by first | rfl | omega), HE1.out, by omega⟩, by simp only [intOf]; omega⟩
    · obtain ⟨m01, m11⟩ := digit_bd HH1.out HD1.out (by omega)
      obtain ⟨P1, eP1⟩ : ∃ P, Q1 * Y0 = P := ⟨_, rfl⟩
      rw [eP1] at m01 m11
      by_cases c31 : R1 * 4294967296 + V1 < P1
      · obtain ⟨hq1, d21⟩ := HD1.out.less HH1.out (.inr (by rw [eP1]; exact c31))
        have HE1 := Lib.hid d21
        clear d21
        by_cases c21 : 4294967296 ≤ R1 + Y1
        · have HX1 := Lib.hid (HE1.out.last HH1.out (.inr ⟨by omega, c21⟩))
          obtain ⟨qi1, ql1⟩ := HX1.out
          have HK := heads_next HH1.out qi1 v0 v1
          rw [EYY.out] at qi1 HK
          have q01 := qi1.1
          have HQ1 := Lib.hid qi1
          clear qi1
          obtain ⟨U2, eU2⟩ : ∃ u, U * 4294967296 + V1 - (Q1 - 1) * Y = u := ⟨_, rfl⟩
          have EU2 := Lib.hid eU2
          rw [eU2] at HK
          have HH2 := Lib.hid HK
          obtain ⟨_, _, _, _, u20, u2b, _, _⟩ := HK
          rw [EYY.out] at u2b
          have eW := wrap_four eU2 u20 (by omega)
          obtain ⟨d2, d2b⟩ := Digit.first HH2.out
          obtain ⟨Q2, eQ2⟩ : ∃ Q, U2 / Y1 = Q := ⟨_, rfl⟩
          obtain ⟨M2, eM2⟩ : ∃ M, Q2 * Y1 = M := ⟨_, rfl⟩
          rw [eQ2] at d2 d2b
          rw [eM2] at d2 d2b
          have HD2 := Lib.hid d2
          have M20 : 0 ≤ M2 := by rw [← eM2]; exact Int.mul_nonneg d2.q0 (by omega)
          obtain ⟨q20, q2B, r20, _, _⟩ := d2
          clear eU2
          go_wp2_with (fail)
          go_loop [16, 18] (fun b a => ∃ Q R : Int, a = .int .u64 Q ∧ b = .int .u64 R ∧ Digit Y1 Y0 U2 V0 Q R ∧ R < 4294967296) (fun _ a => (intOf a).toNat)
          case atStart => exact ⟨Q2, U2 - M2, ret_v (by first | rfl | exact eQ2), ret_v (by first | rfl | exact two_wrap (by omega) (by omega) (by omega)), HD2.out, d2b⟩
          case round =>
            obtain ⟨Q2, R2, rfl, rfl, hd2, hR2⟩ := hrel
            have HD2 := Lib.hid hd2
            obtain ⟨q02, qB2, r02, _, _⟩ := hd2
            by_cases c12 : 4294967296 ≤ Q2
            · obtain ⟨hq2, d22⟩ := HD2.out.less HH2.out (.inl c12)
              have HE2 := Lib.hid d22
              clear d22
              by_cases c22 : 4294967296 ≤ R2 + Y1
              · have HX2 := Lib.hid (HE2.out.last HH2.out (.inr ⟨by omega, c22⟩))
                obtain ⟨qi2, ql2⟩ := HX2.out
                rw [EYY.out] at qi2
                have q02 := qi2.1
                have HZ := Lib.hid (HF.out (Q1 - 1) (Q2 - 1) HQ1.out (by rw [EU2.out]; exact qi2) ql2)
                clear qi2
                go_wp2
                go_ret2
                exact ⟨_, _, HZ.out, rfl, by go_grown⟩
              · go_wp2
                refine ⟨⟨Q2 - 1, R2 + Y1, ret_v (by first | rfl | omega), ret_v (by first | rfl | omega), HE2.out, by omega⟩, by simp only [intOf]; omega⟩
            · obtain ⟨m02, m12⟩ := digit_bd HH2.out HD2.out (by omega)
              obtain ⟨P2, eP2⟩ : ∃ P, Q2 * Y0 = P := ⟨_, rfl⟩
              rw [eP2] at m02 m12
              by_cases c32 : R2 * 4294967296 + V0 < P2
              · obtain ⟨hq2, d22⟩ := HD2.out.less HH2.out (.inr (by rw [eP2]; exact c32))
                have HE2 := Lib.hid d22
                clear d22
                by_cases c22 : 4294967296 ≤ R2 + Y1
                · have HX2 := Lib.hid (HE2.out.last HH2.out (.inr ⟨by omega, c22⟩))
                  obtain ⟨qi2, ql2⟩ := HX2.out
                  rw [EYY.out] at qi2
                  have q02 := qi2.1
                  have HZ := Lib.hid (HF.out (Q1 - 1) (Q2 - 1) HQ1.out (by rw [EU2.out]; exact qi2) ql2)
                  clear qi2
                  go_wp2
                  go_ret2
                  exact ⟨_, _, HZ.out, rfl, by go_grown⟩
                · go_wp2
                  refine ⟨⟨Q2 - 1, R2 + Y1, ret_v (by first | rfl | omega), ret_v (by first | rfl | omega), HE2.out, by omega⟩, by simp only [intOf]; omega⟩
              · have HX2 := Lib.hid (HD2.out.last HH2.out (.inl (by rw [eP2]; omega)))
                obtain ⟨qi2, ql2⟩ := HX2.out
                rw [EYY.out] at qi2
                have q02 := qi2.1
                have HZ := Lib.hid (HF.out (Q1 - 1) Q2 HQ1.out (by rw [EU2.out]; exact qi2) ql2)
                clear qi2
                go_wp2
                go_ret2
                exact ⟨_, _, HZ.out, rfl, by go_grown⟩
        · go_wp2
          refine ⟨⟨Q1 - 1, R1 + Y1, ret_v (by first | rfl | omega), ret_v (by first | rfl | omega), HE1.out, by omega⟩, by simp only [intOf]; omega⟩
      · have HX1 := Lib.hid (HD1.out.last HH1.out (.inl (by rw [eP1]; omega)))
        obtain ⟨qi1, ql1⟩ := HX1.out
        have HK := heads_next HH1.out qi1 v0 v1
        rw [EYY.out] at qi1 HK
        have q01 := qi1.1
        have HQ1 := Lib.hid qi1
        clear qi1
        obtain ⟨U2, eU2⟩ : ∃ u, U * 4294967296 + V1 - Q1 * Y = u := ⟨_, rfl⟩
        have EU2 := Lib.hid eU2
        rw [eU2] at HK
        have HH2 := Lib.hid HK
        obtain ⟨_, _, _, _, u20, u2b, _, _⟩ := HK
        rw [EYY.out] at u2b
        have eW := wrap_four eU2 u20 (by omega)
        obtain ⟨d2, d2b⟩ := Digit.first HH2.out
        obtain ⟨Q2, eQ2⟩ : ∃ Q, U2 / Y1 = Q := ⟨_, rfl⟩
        obtain ⟨M2, eM2⟩ : ∃ M, Q2 * Y1 = M := ⟨_, rfl⟩
        rw [eQ2] at d2 d2b
        rw [eM2] at d2 d2b
        have HD2 := Lib.hid d2
        have M20 : 0 ≤ M2 := by rw [← eM2]; exact Int.mul_nonneg d2.q0 (by omega)
        obtain ⟨q20, q2B, r20, _, _⟩ := d2
        clear eU2
        go_wp2_with (fail)
        go_loop [16, 18] (fun b a => ∃ Q R : Int, a = .int .u64 Q ∧ b = .int .u64 R ∧ Digit Y1 Y0 U2 V0 Q R ∧ R < 4294967296) (fun _ a => (intOf a).toNat)
        case atStart => exact ⟨Q2, U2 - M2, ret_v (by first | rfl | exact eQ2), ret_v (by first | rfl | exact two_wrap (by omega) (by omega) (by omega)), HD2.out, d2b⟩
        case round =>
          obtain ⟨Q2, R2, rfl, rfl, hd2, hR2⟩ := hrel
          have HD2 := Lib.hid hd2
          obtain ⟨q02, qB2, r02, _, _⟩ := hd2
          by_cases c12 : 4294967296 ≤ Q2
          · obtain ⟨hq2, d22⟩ := HD2.out.less HH2.out (.inl c12)
            have HE2 := Lib.hid d22
            clear d22
            by_cases c22 : 4294967296 ≤ R2 + Y1
            · have HX2 := Lib.hid (HE2.out.last HH2.out (.inr ⟨by omega, c22⟩))
              obtain ⟨qi2, ql2⟩ := HX2.out
              rw [EYY.out] at qi2
              have q02 := qi2.1
              have HZ := Lib.hid (HF.out Q1 (Q2 - 1) HQ1.out (by rw [EU2.out]; exact qi2) ql2)
              clear qi2
              go_wp2
              go_ret2
              exact ⟨_, _, HZ.out, rfl, by go_grown⟩
            · go_wp2
              refine ⟨⟨Q2 - 1, R2 + Y1, ret_v (by first | rfl | omega), ret_v (by first | rfl | omega), HE2.out, by omega⟩, by simp only [intOf]; omega⟩
          · obtain ⟨m02, m12⟩ := digit_bd HH2.out HD2.out (by omega)
            obtain ⟨P2, eP2⟩ : ∃ P, Q2 * Y0 = P := ⟨_, rfl⟩
            rw [eP2] at m02 m12
            by_cases c32 : R2 * 4294967296 + V0 < P2
            · obtain ⟨hq2, d22⟩ := HD2.out.less HH2.out (.inr (by rw [eP2]; exact c32))
              have HE2 := Lib.hid d22
              clear d22
              by_cases c22 : 4294967296 ≤ R2 + Y1
              · have HX2 := Lib.hid (HE2.out.last HH2.out (.inr ⟨by omega, c22⟩))
                obtain ⟨qi2, ql2⟩ := HX2.out
                rw [EYY.out] at qi2
                have q02 := qi2.1
                have HZ := Lib.hid (HF.out Q1 (Q2 - 1) HQ1.out (by rw [EU2.out]; exact qi2) ql2)
                clear qi2
                go_wp2
                go_ret2
                exact ⟨_, _, HZ.out, rfl, by go_grown⟩
              · go_wp2
                refine ⟨⟨Q2 - 1, R2 + Y1, ret_v (by first | rfl | omega), ret_v (by first | rfl | omega), HE2.out, by omega⟩, by simp only [intOf]; omega⟩
            · have HX2 := Lib.hid (HD2.out.last HH2.out (.inl (by rw [eP2]; omega)))
              obtain ⟨qi2, ql2⟩ := HX2.out
              rw [EYY.out] at qi2
              have q02 := qi2.1
              have HZ := Lib.hid (HF.out Q1 Q2 HQ1.out (by rw [EU2.out]; exact qi2) ql2)
              clear qi2
              go_wp2
              go_ret2
              exact ⟨_, _, HZ.out, rfl, by go_grown⟩

theorem or_sum (a b : Int) (s : Nat) (a0 : 0 ≤ a) (b0 : 0 ≤ b) (hb : b < 2 ^ s) (h : a * 2 ^ s + b ≤ 18446744073709551615) : bits .or .u64 (IntKind.u64.wrap (a * 2 ^ s)) b = a * 2 ^ s + b := by
  have p0 : 0 ≤ a * (2 : Int) ^ s := Int.mul_nonneg a0 (Int.le_of_lt (Int.pow_pos (by omega)))
  rw [IntWalk.u64_in _ ⟨p0, by omega⟩, u64_or _ _ p0 (by omega) b0 (by omega)]
  obtain ⟨A, rfl⟩ := Int.eq_ofNat_of_zero_le a0
  obtain ⟨B, rfl⟩ := Int.eq_ofNat_of_zero_le b0
  have hc : ((2 : Int) ^ s) = ((2 ^ s : Nat) : Int) := by simp
  rw [hc] at hb ⊢
  rw [← Int.natCast_mul, Int.toNat_natCast, Int.toNat_natCast, Nat.mul_comm A, ← Nat.two_pow_add_eq_or_of_lt (by omega)]
  omega

theorem divq_any (hi lo y : Int) (w : World) (h0 : 0 ≤ hi) (h1 : hi < y) (l0 : 0 ≤ lo) (l1 : lo ≤ 18446744073709551615) (y1 : y ≤ 9223372036854775807) :
    Calls Try.prog 128 #[.int .u64 hi, .int .u64 lo, .int .u64 y] w (DivQRet hi lo y w) := by
  by_cases hz : hi = 0
  · subst hz; exact divq_low lo y w l0 l1 h1 (by omega)
  have L0 := fun w => Try.bits_LeadingZeros64 y w (by omega) (by omega)
  obtain ⟨c0, c1, c2⟩ := Lib.bitLenAux_bounds 64 y.toNat (by omega) (by omega)
  change 1 ≤ Lib.bitLen y.toNat at c0
  change 2 ^ (Lib.bitLen y.toNat - 1) ≤ y.toNat at c1
  change y.toNat < 2 ^ Lib.bitLen y.toNat at c2
  generalize Lib.bitLen y.toNat = b at *
  have b63 : b ≤ 63 := by
    by_cases h : b ≤ 63
    · exact h
    · have : 2 ^ 63 ≤ 2 ^ (b - 1) := Nat.pow_le_pow_right (by omega) (by omega)
      omega
  obtain ⟨s, hs⟩ : ∃ s, 64 - b = s := ⟨_, rfl⟩
  have e64 : ((64 : Int) - (b : Int)) = (s : Int) := by omega
  obtain ⟨p, hp⟩ : ∃ p, (2 : Int) ^ s = p := ⟨_, rfl⟩
  obtain ⟨k, hk⟩ : ∃ k, (2 : Int) ^ (64 - s) = k := ⟨_, rfl⟩
  have pk : k * p = 18446744073709551616 := by rw [← hk, ← hp, ← Int.pow_add, show 64 - s + s = 64 by omega]; rfl
  have p0 : 0 < p := by rw [← hp]; exact Int.pow_pos (by omega)
  have k0 : 0 < k := by rw [← hk]; exact Int.pow_pos (by omega)
  have yk : y + 1 ≤ k := by
    have : ((2 ^ b : Nat) : Int) = k := by rw [← hk, show 64 - s = b by omega]; simp
    omega
  have ky : k ≤ 2 * y := by
    have h2 : 2 ^ b = 2 * 2 ^ (b - 1) := by rw [show 2 ^ b = 2 ^ (b - 1 + 1) by rw [show b - 1 + 1 = b by omega], Nat.pow_succ, Nat.mul_comm]
    have : ((2 ^ b : Nat) : Int) = k := by rw [← hk, show 64 - s = b by omega]; simp
    omega
  have ya := Int.mul_le_mul_of_nonneg_right yk (show 0 ≤ p by omega)
  have yb := Int.mul_le_mul_of_nonneg_right ky (show 0 ≤ p by omega)
  rw [Int.add_mul, Int.one_mul, pk] at ya
  rw [pk, Int.mul_assoc] at yb
  have hh := Int.mul_le_mul_of_nonneg_right (show hi + 1 ≤ y by omega) (show 0 ≤ p by omega)
  rw [Int.add_mul, Int.one_mul] at hh
  have ed : k * (lo / k) + lo % k = lo := Int.mul_ediv_add_emod lo k
  have m0 := Int.emod_nonneg lo (show k ≠ 0 by omega)
  have m1 := Int.emod_lt_of_pos lo k0
  have d0 : 0 ≤ lo / k := Int.ediv_nonneg l0 (by omega)
  have dp : lo / k < p := Int.ediv_lt_of_lt_mul k0 (by rw [Int.mul_comm p k, pk]; omega)
  have n0 : 0 ≤ lo % k * p := Int.mul_nonneg m0 (by omega)
  have n1 : lo % k * p ≤ 18446744073709551615 := by
    have := Int.mul_le_mul_of_nonneg_right (show lo % k + 1 ≤ k by omega) (show 0 ≤ p by omega)
    rw [Int.add_mul, Int.one_mul, pk] at this
    omega
  have el : lo * p = lo / k * 18446744073709551616 + lo % k * p := by
    have : lo * p = (k * (lo / k) + lo % k) * p := by rw [ed]
    rw [this, ← pk]; grind
  have hi0 : 0 ≤ hi * p := Int.mul_nonneg h0 (by omega)
  have eL : IntKind.u64.wrap (lo * 2 ^ s) = lo % k * p := by rw [hp, IntKind.wrap_u64]; omega
  have eU : bits .or .u64 (IntKind.u64.wrap (hi * 2 ^ s)) (lo / 2 ^ (64 - s)) = hi * p + lo / k := by rw [or_sum _ _ _ h0 (by rw [hk]; exact d0) (by rw [hk, hp]; exact dp) (by rw [hp, hk]; omega), hp, hk]
  have y0 : 0 ≤ y * p := Int.mul_nonneg (by omega) (by omega)
  have eY : IntKind.u64.wrap (y * 2 ^ s) = y * p := by rw [hp]; exact IntWalk.u64_in _ ⟨y0, by omega⟩
  have ea : ∀ a : Int, 0 ≤ a → a ≤ 18446744073709551615 → bits .and .u64 a 4294967295 = a % 4294967296 := fun a a0 a1 => by
    obtain ⟨A, rfl⟩ := Int.eq_ofNat_of_zero_le a0
    exact Mul64.maskN A (by omega)
  have hN : (hi * 18446744073709551616 + lo) * p = (hi * p + lo / k) * 18446744073709551616 + lo % k * p := by rw [Int.add_mul, el]; grind
  refine divq_core hi lo y s (y * p) (y * p / 4294967296) (y * p % 4294967296) (hi * p + lo / k) (lo % k * p) (lo % k * p / 4294967296) (lo % k * p % 4294967296) w (by omega) h1 (by omega) (by omega) ?_
    eY rfl (ea _ y0 (by omega)) eU eL rfl (ea _ n0 n1) ⟨by omega, by omega, by omega, by omega, by omega, by omega, by omega, by omega⟩ (by omega) (by omega) (by omega) (by omega) ?_
  · rw [← e64]; exact L0 w
  · intro q1 q0 h1 h2 h3
    refine QuoIs.shift p0 ?_
    rw [hN]
    have := QuoIs.two h1 h2 h3
    rw [show lo % k * p / 4294967296 * 4294967296 + lo % k * p % 4294967296 = lo % k * p by omega] at this
    exact this
end Go.Proofs.Ythccbipjmheoaaa
