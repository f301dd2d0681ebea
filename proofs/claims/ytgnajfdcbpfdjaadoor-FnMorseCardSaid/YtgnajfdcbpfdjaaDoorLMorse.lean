/- The law of Morse. -/
import Derived.Test.YtgnajfdcbpfdjaaDoorMrsQ
import Derived.Test.YtgnajfdcbpfdjaaDoorMrsT
import Derived.Test.YtgnajfdcbpfdjaaDoorSndX
import Derived.Test.YtgnajfdcbpfdjaaDoorRsgK
import Derived.Stop.LaidErr
namespace Go.Proofs.YtgnajfdcbpfdjaaDoor
open Go.ChangeShapes Go.WideShapes Go.ChangeAt Go.RowKit Pm

def atM (zs : List Int) (k : Nat) (n : Int) : Int := if k < zs.length then zs.getD k 0 % n else 0
theorem atM_bd {zs : List Int} {k : Nat} {n : Int} (hn : 0 < n) : 0 ≤ atM zs k n ∧ atM zs k n < n := by
  unfold atM
  split
  · exact ⟨Int.emod_nonneg _ (by omega), Int.emod_lt_of_pos _ hn⟩
  · omega
theorem r8atm_any (w : World) (sv : Value) (zs : List Int) (k : Nat) (n : Int) (hA : ArgIn .u8 w sv zs) (hz : BytesAre zs) (hl : zs.length ≤ 1048576) (hn : 1 < n) (hn2 : n ≤ 1000) :
    Calls Tryd.prog 17 #[sv, .int .i64 k, .int .i64 n] w fun e w' => e = .returned (.int .i64 (atM zs k n)) ∧ w = w' := by
  by_cases hk : k < zs.length
  · have HV := Lib.hid (show atM zs k n = zs.getD k 0 % n by unfold atM; rw [if_pos hk])
    rcases hA with ⟨rfl, _⟩ | ⟨rfl, rfl⟩ | ⟨b, off, cap, rfl, _, hc⟩
    · simp at hk
    · simp at hk
    · have hcell := hc k hk
      obtain ⟨x0, x1⟩ := hz k hk
      generalize zs.getD k 0 = x at hcell x0 x1 HV
      have hki : (k : Int) < (zs.length : Int) := by omega
      have hkd : decide ((zs.length : Int) ≤ (k : Int)) = false := by simp; omega
      clear hc hz
      go_enter Tryd.func17, Tryd.ntmps17
      go_wp2
      go_ret
      exact ⟨ret_i HV.out.symm, rfl⟩
  · have HV := Lib.hid (show atM zs k n = 0 by unfold atM; rw [if_neg hk])
    obtain ⟨a, c, rfl⟩ := hA.len
    have hki : (zs.length : Int) ≤ (k : Int) := by omega
    clear hA hz
    go_enter Tryd.func17, Tryd.ntmps17
    go_wp2
    go_ret
    exact ⟨ret_i HV.out.symm, rfl⟩

theorem long_no (a0 a1 : Option Addr) (l0 l1 c0 c1 : Nat) (w : World) (h0 : l0 ≤ 1048576) (h1 : l1 ≤ 1048576) :
    Calls Tryd.prog 16 #[.slice a0 l0 c0, .slice a1 l1 c1] w fun e w' => e = .returned (.bool false) ∧ w = w' := by
  have h0i : (l0 : Int) ≤ 1048576 := by omega
  have h1i : (l1 : Int) ≤ 1048576 := by omega
  have HV := Lib.hid (show (decide ((1048576 : Int) < (l0 : Int)) || decide ((1048576 : Int) < (l1 : Int))) = false by simp; omega)
  go_enter Tryd.func16, Tryd.ntmps16
  go_wp2
  go_ret
  exact ⟨retB (by first | rfl | exact HV.out), rfl⟩
theorem long_yes (a0 a1 : Option Addr) (l0 l1 c0 c1 : Nat) (w : World) (h : ¬ (l0 ≤ 1048576 ∧ l1 ≤ 1048576)) :
    Calls Tryd.prog 16 #[.slice a0 l0 c0, .slice a1 l1 c1] w fun e w' => e = .returned (.bool true) ∧ w = w' := by
  by_cases h0 : l0 ≤ 1048576
  · have h0i : (l0 : Int) ≤ 1048576 := by omega
    have h1i : (1048576 : Int) < (l1 : Int) := by omega
    have HV := Lib.hid (show decide ((1048576 : Int) < (l1 : Int)) = true by simp; omega)
    go_enter Tryd.func16, Tryd.ntmps16
    go_wp2
    go_ret
    exact ⟨retB (by first | rfl | exact HV.out), rfl⟩
  · have h0i : (1048576 : Int) < (l0 : Int) := by omega
    go_enter Tryd.func16, Tryd.ntmps16
    go_wp2
    go_ret
    exact ⟨rfl, rfl⟩

theorem col_w : colB ⟨#[87]⟩ = true := by unfold colB; rw [ByteArray.toList_eq]; decide +kernel
theorem col_r : colB ⟨#[82]⟩ = true := by unfold colB; rw [ByteArray.toList_eq]; decide +kernel
theorem prod_small (n y : Int) (n0 : 0 ≤ n) (n1 : n ≤ 15) (y0 : 0 ≤ y) (y1 : y < 50) : 0 ≤ n * (1 + y) ∧ n * (1 + y) ≤ 1000 := by
  have a : n * (1 + y) ≤ 15 * 50 := Int.mul_le_mul n1 (by omega) (by omega) (by omega)
  have b : 0 ≤ n * (1 + y) := Int.mul_nonneg n0 (by omega)
  omega

set_option maxRecDepth 100000 in
set_option maxHeartbeats 8000000 in
theorem morse_law (a0 : Option Addr) (len0 cap0 : Nat) (a1 : Option Addr) (len1 cap1 : Nat) (zs0 zs1 : List Int) (w : World) (hA0 : ArgIn .u8 w (.slice a0 len0 cap0) zs0) (hl0 : zs0.length = len0) (hz0 : BytesAre zs0)
    (hA1 : ArgIn .u8 w (.slice a1 len1 cap1) zs1) (hl1 : zs1.length = len1) (hz1 : BytesAre zs1) (hL : laidMetH Tryd.prog Rows.fnMorseRow.laid w) (hsh : w.ShapedOpen Tryd.prog) :
    Calls Tryd.prog 5 #[.slice a0 len0 cap0, .slice a1 len1 cap1] w fun e w' => e = .returned (.bool true) ∧ Below w.heap.size w w' := by
  by_cases hlen : len0 ≤ 1048576 ∧ len1 ≤ 1048576
  · rw [MakeChecks.laidMetH_plain _ _ _ (by kernel_rfl)] at hL
    have hT : SignsAt w := signs_of hL.tail
    have hN : LenAt w := len_of hsh
    have HLG := Lib.hid (fun w' (_ : Below w.heap.size w w') => long_no a0 a1 len0 len1 cap0 cap1 w' hlen.1 hlen.2)
    have HX := Lib.hid (show ∀ w', Below w.heap.size w w' → Calls Tryd.prog 17 #[.slice a1 len1 cap1, .int .i64 0, .int .i64 26] w' fun e w'' => e = .returned (.int .i64 (atM zs1 0 26)) ∧ w' = w'' from fun w' hb => r8atm_any w' _ zs1 0 26 (hA1.below hb) hz1 (by omega) (by omega) (by omega))
    have HY := Lib.hid (show ∀ w', Below w.heap.size w w' → Calls Tryd.prog 17 #[.slice a1 len1 cap1, .int .i64 1, .int .i64 50] w' fun e w'' => e = .returned (.int .i64 (atM zs1 1 50)) ∧ w' = w'' from fun w' hb => r8atm_any w' _ zs1 1 50 (hA1.below hb) hz1 (by omega) (by omega) (by omega))
    have HR := Lib.hid (fun w' (hb : Below w.heap.size w w') => r8text_any w' (.slice a0 len0 cap0) zs0 (hA0.below hb) hz0 (by omega))
    obtain ⟨x0, x1⟩ := atM_bd (zs := zs1) (k := 0) (n := 26) (by omega)
    obtain ⟨y0, y1⟩ := atM_bd (zs := zs1) (k := 1) (n := 50) (by omega)
    generalize atM zs1 0 26 = x at *
    generalize atM zs1 1 50 = y at *
    obtain ⟨r, er⟩ : ∃ r : Nat, x = (r : Int) := ⟨x.toNat, by omega⟩
    have hr : r < 26 := by omega
    have hcn : ((UInt8.ofNat (65 + r)).toNat : Int) = 65 + x := by rw [UInt8.toNat_ofNat']; omega
    have hcv := fun W => conv_one W (UInt8.ofNat (65 + r)) (65 + x) hcn.symm
    obtain ⟨s, g, k, n, q, hs, e1, e2, e3, e4, e5, e6, k1, k2, e7, g1, e8, e9, q1, q2, q3, q4, q5, q6, n0, n1⟩ := letter_facts r (1 + y) ⟨#[87]⟩ hr (by omega) (by omega) col_w
    rw [show (⟨#[UInt8.ofNat (65 + r)]⟩ : ByteArray) = s from hs.symm] at hcv
    have HM1 := fun w' (hb : Below w.heap.size w w') => morseof_any s w' (hT.below hb)
    have HM2 := fun w' (hb : Below w.heap.size w w') => letterof_any g w' (hT.below hb)
    have HM3 := fun w' (hb : Below w.heap.size w w') => letterslike_any g w' (by omega) (hT.below hb)
    have HM4 := fun w' (hb : Below w.heap.size w w') => length_any s w' (hT.below hb)
    have HM5 := fun w' (hb : Below w.heap.size w w') => send_any s ⟨#[87]⟩ (1 + y) w' (hN.below hb) (hT.below hb)
    rw [e1, e2] at HM1
    rw [e3, e4] at HM2
    rw [e5, e6] at HM3
    rw [e7, e2] at HM4
    rw [e8, e9] at HM5
    have HM1 := Lib.hid HM1
    have HM2 := Lib.hid HM2
    have HM3 := Lib.hid HM3
    have HM4 := Lib.hid HM4
    have HM5 := Lib.hid HM5
    have HF := Lib.hid (show ∀ l : List UInt8, okF true l = true → l.length ≤ 12 → ∃ L : List Ph, (∀ w', Below w.heap.size w w' → Calls Tryd.prog 22 #[.string ⟨l.toArray⟩, .string ⟨#[82]⟩, .int .i64 (1 + y)] w' (OwnPairI L 0 w')) ∧
        (∀ w' v, Below w.heap.size w w' → PhAre w' v L → Calls Tryd.prog 14 #[v, .int .i64 (1 + y)] w' (SC ⟨l.toArray⟩ 0 w')) from by
      intro l h1 h2
      obtain ⟨L, f1, f2, f3, f4⟩ := text_facts l (1 + y) ⟨#[82]⟩ h1 h2 (by omega) (by omega) col_r
      have i1 := fun w' (hb : Below w.heap.size w w') => send_any ⟨l.toArray⟩ ⟨#[82]⟩ (1 + y) w' (hN.below hb) (hT.below hb)
      rw [f1, f2] at i1
      have i2 := fun w' v (hb : Below w.heap.size w w') hp => readsig_any v L (1 + y) w' (by omega) hp (LenAtR.below (show LenAtR w from hN) hb) (hT.below hb)
      obtain ⟨f5, f6⟩ := rd_yes (ps := L) (u := 1 + y) ⟨by omega, by omega⟩ f4
      rw [f5, f6] at i2
      exact ⟨L, i1, i2⟩)
    have hk1 : ¬ (k.size : Int) < 1 := by omega
    have hg1 : (g.size : Int) ≤ 4 := by omega
    have hgn : 0 ≤ (g.size : Int) := by omega
    have hq1 : ((q.length : Int) != 2 * (g.size : Int) - 1) = false := by rw [q1]; simp
    have hq2 : ¬ q.length = 0 := by omega
    have HQ3 := Lib.hid q3
    have HQ4 := Lib.hid q4
    have HQ5 := Lib.hid q5
    have HQ6 := Lib.hid q6
    obtain ⟨p0, p1⟩ := prod_small n y n0 n1 y0 y1
    have hqz : (q.length : Int) ≤ 8 := by omega
    have HBB := Lib.hid (Below.refl w.heap.size w)
    clear hA0 hA1 hz0 hz1 hl0 hl1 hlen hL hsh hT hN hs e1 e2 e3 e4 e5 e6 e7 e8 e9 q1 q2 q3 q4 q5 q6 k1 k2 g1 er hr hcn
    go_enter Tryd.func5, Tryd.ntmps5
    go_wp2_with (go_at_call 16; (with_reducible refine (HLG.out _ HBB.out).mono ?_); rintro e w1 ⟨rfl, rfl⟩; refine Hid.out ?_)
    refine Lib.hid ?_
    go_wp2_with (go_at_call 17; (with_reducible refine (HX.out _ HBB.out).mono ?_); rintro e w1 ⟨rfl, rfl⟩; refine Hid.out ?_)
    refine Lib.hid ?_
    go_wp2_with (go_at_call 18; refine (HM1.out _ (HBB.out.alloc (Nat.le_refl _) _)).mono ?_; rintro e w1 ⟨rfl, hb⟩; refine Hid.out ?_)
    refine Lib.hid ?_
    replace HBB := Lib.hid (Below.next (HBB.out.alloc (Nat.le_refl _) _) hb)
    clear hb hcv
    go_wp2_with (go_at_call 19; (with_reducible refine (HM2.out _ HBB.out).mono ?_); rintro e w1 ⟨rfl, hb⟩; refine Hid.out ?_)
    refine Lib.hid ?_
    replace HBB := Lib.hid (Below.next HBB.out hb)
    clear hb
    go_wp2_with (go_at_call 20; (with_reducible refine (HM3.out _ HBB.out).mono ?_); rintro e w1 ⟨rfl, hb⟩; refine Hid.out ?_)
    refine Lib.hid ?_
    replace HBB := Lib.hid (Below.next HBB.out hb)
    clear hb
    go_wp2_with (go_at_call 21; (with_reducible refine (HM4.out _ HBB.out).mono ?_); rintro e w1 ⟨rfl, hb⟩; refine Hid.out ?_)
    refine Lib.hid ?_
    replace HBB := Lib.hid (Below.next HBB.out hb)
    clear hb
    go_wp2_with (go_at_call 17; (with_reducible refine (HY.out _ HBB.out).mono ?_); rintro e w1 ⟨rfl, rfl⟩; refine Hid.out ?_)
    refine Lib.hid ?_
    go_wp2_with (go_at_call 22; refine (HM5.out _ HBB.out).mono ?_; rintro e w1 ⟨v, rfl, ho, hb⟩; refine Hid.out ?_)
    refine Lib.hid ?_
    replace HBB := Lib.hid (Below.next HBB.out hb)
    obtain ⟨a, cp, rfl, _, ha⟩ := ho.are
    obtain ⟨b, off, rfl, hc⟩ : ∃ b off, a = some ⟨b, off, none⟩ ∧ ∀ i, i < q.length → w1.cell? ⟨b, off + i * 2, none⟩ = some (.string (q.getD i ph0).1) ∧ w1.cell? ⟨b, off + i * 2 + 1, none⟩ = some (.int .i64 (q.getD i ph0).2) := by
      rcases ha with h | h
      · subst h; exact absurd rfl hq2
      · exact h
    have HC := Lib.hid hc
    clear hb ho ha hc
    go_wp2_with (fail)
    go_loop [17, 18] (fun a b => ∃ j : Nat, j ≤ q.length ∧ a = .int .i64 (sumP (q.take j)) ∧ b = .int .i64 j) (fun _ b => q.length - (intOf b).toNat)
    case atStart => exact ⟨0, Nat.zero_le _, rfl, rfl⟩
    case round =>
      obtain ⟨j, hj, rfl, rfl⟩ := hrel
      obtain ⟨s0, s1⟩ := HQ5.out j hj
      by_cases hlt : j < q.length
      · have hcell := (HC.out j hlt).2
        obtain ⟨d0, d1⟩ := HQ4.out j hlt
        have HS := Lib.hid (sumP_take hlt)
        generalize (q.getD j ph0).2 = d at hcell d0 d1 HS
        generalize sumP (q.take j) = S at *
        have hji : (j : Int) < (q.length : Int) := by omega
        go_wp2_with (fail)
        go_round
        case rel => exact ⟨j + 1, by omega, ret_v HS.out.symm, by go_num⟩
        case measure => simp [intOf]; omega
      · have hse : sumP (q.take j) = n * (1 + y) := by rw [List.take_of_length_le (by omega)]; exact HQ6.out
        generalize sumP (q.take j) = S at *
        have hsb : (S == n * (1 + y)) = true := by rw [hse]; simp
        have HSE := Lib.hid hse
        clear hse
        have hji : ¬ (j : Int) < (q.length : Int) := by omega
        go_wp2_with (go_at_call 23; refine (HR.out _ HBB.out).mono ?_; rintro e w2 ⟨l, hl1, hl2, rfl, hb⟩; refine Hid.out ?_)
        refine Lib.hid ?_
        obtain ⟨L2, i1, i2⟩ := HF.out l hl1 hl2
        have I1 := Lib.hid i1
        have I2 := Lib.hid i2
        replace HBB := Lib.hid (Below.next HBB.out hb)
        clear hb i1 i2 hl1 hl2
        generalize (⟨l.toArray⟩ : ByteArray) = tx at *
        go_wp2_with (go_at_call 22; refine (I1.out _ HBB.out).mono ?_; rintro e w3 ⟨v2, rfl, ho2, hb⟩; refine Hid.out ?_)
        refine Lib.hid ?_
        replace HBB := Lib.hid (Below.next HBB.out hb)
        have HO2 := Lib.hid ho2.are
        clear hb ho2
        go_wp2_with (go_at_call 14; refine (I2.out _ _ HBB.out HO2.out).mono ?_; rintro e w4 ⟨rfl, hb⟩; refine Hid.out ?_)
        refine Lib.hid ?_
        replace HBB := Lib.hid (Below.next HBB.out hb)
        clear hb
        go_wp2_with (fail)
        go_ret
        exact ⟨rfl, HBB.out⟩
  · have HLG := Lib.hid (long_yes a0 a1 len0 len1 cap0 cap1 w hlen)
    clear hA0 hA1 hz0 hz1 hl0 hl1 hlen hL hsh
    go_enter Tryd.func5, Tryd.ntmps5
    go_wp2_with (go_at_call 16; refine HLG.out.mono ?_; rintro e w1 ⟨rfl, rfl⟩)
    go_ret
    exact ⟨rfl, Below.refl _ _⟩
end Go.Proofs.YtgnajfdcbpfdjaaDoor
