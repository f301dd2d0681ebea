/- Deleting sectors: the program's. -/
import Derived.Test.YtclbpjjnhfllkaaDelM
import Derived.Test.YtclbpjjnhfllkaaSecS
namespace Go.Proofs.Ytclbpjjnhfllkaa
open Go.ChangeShapes Go.WideShapes Go.ChangeAt Go.RowKit Pm

/-- The cells of a list. -/
theorem OwnSec.sec {w : World} {B g cap : Nat} {ps : List Sec} (h : OwnSec w B (.slice (some ⟨g, 0, Option.none⟩) ps.length cap) ps) (i : Nat) (hi : i < ps.length) : SecAt w g (i * 3) (ps.getD i sec0) := by
  obtain ⟨v0, v1, v2⟩ := secV_at ps i hi
  have hl := secV_len ps
  exact ⟨(World.ownsRow.cellAt h (i * 3) (by omega)).trans v0, (World.ownsRow.cellAt h (i * 3 + 1) (by omega)).trans v1, (World.ownsRow.cellAt h (i * 3 + 2) (by omega)).trans v2⟩
theorem isdark_any (f t : Int) (x : ByteArray) (w : World) :
    Calls Try.prog 57 #[.agg #[.int .i64 f, .int .i64 t, .string x]] w fun e w' => e = .returned (.bool (drk x)) ∧ Below w.heap.size w w' := by
  have HDR := Lib.hid (show drk x = x.toList.isEmpty from rfl)
  cases he : x.toList.isEmpty
  all_goals
    go_enter Try.func57, Try.ntmps57
    go_wp2_with (fail)
    go_ret
    exact ⟨by rw [HDR.out, he]; rfl, by first | assumption | exact ((Below.refl _ _).alloc (Nat.le_refl _) _).drew | exact ((Below.refl _ _).alloc (Nat.le_refl _) _) | go_grown⟩
theorem dark1_any (f t : Int) (x : ByteArray) (w : World) :
    Calls Try.prog 56 #[.agg #[.int .i64 f, .int .i64 t, .string x]] w fun e w' => e = .returned (.bool (!drk x)) ∧ Below w.heap.size w w' := by
  have HB := Lib.hid (show Below w.heap.size w (w.alloc (.cells #[.int .i64 f, .int .i64 t, .string x] 26)) from (Below.refl _ _).alloc (Nat.le_refl _) _)
  obtain ⟨b, hb⟩ : ∃ b, b = drk x := ⟨_, rfl⟩
  have HD := Lib.hid (fun w => isdark_any f t x w)
  rw [← hb] at HD ⊢
  clear hb
  go_enter Try.func56, Try.ntmps56
  go_wp2_with (go_at_call 57; refine (HD.out _).mono ?_; rintro e w1 ⟨rfl, hb⟩; refine Hid.out ?_)
  refine Lib.hid ?_
  have HB1 := Lib.hid (Below.next HB.out hb)
  clear hb
  go_wp2_with (fail)
  go_ret
  exact ⟨rfl, HB1.out⟩
theorem del_false (p : Sec) (w : World) : Calls Try.prog 57 #[.agg #[.int .i64 p.1, .int .i64 p.2.1, .string p.2.2]] w fun e w' => e = .returned (.bool (dlB false p.2.2)) ∧ Below w.heap.size w w' := by
  have h := isdark_any p.1 p.2.1 p.2.2 w
  rwa [show drk p.2.2 = dlB false p.2.2 by unfold dlB; cases drk p.2.2 <;> rfl] at h
theorem del_true (p : Sec) (w : World) : Calls Try.prog 56 #[.agg #[.int .i64 p.1, .int .i64 p.2.1, .string p.2.2]] w fun e w' => e = .returned (.bool (dlB true p.2.2)) ∧ Below w.heap.size w w' := by
  have h := dark1_any p.1 p.2.1 p.2.2 w
  rwa [show (!drk p.2.2) = dlB true p.2.2 by unfold dlB; cases drk p.2.2 <;> rfl] at h
theorem dlB_keep {k : Bool} {s : ByteArray} : dlB k s = false ↔ (drk s == k) = true := by unfold dlB; cases (drk s == k) <;> simp
theorem dlB_del {k : Bool} {s : ByteArray} : dlB k s = true ↔ (drk s == k) = false := by unfold dlB; cases (drk s == k) <;> simp
theorem own_cap {w : World} {B g n cap : Nat} {xs : List Value} (h : w.ownsRow B 26 3 (.slice (some ⟨g, 0, Option.none⟩) n cap) n xs) : n ≤ cap ∧ cap ≤ maxLen := by
  rcases h.2 with ⟨h', _⟩ | ⟨g', cap', cur, h', hb, hg, hnc, hcm, hcs, htake⟩
  · cases h'
  · simp only [Value.slice.injEq, Option.some.injEq, Addr.mk.injEq, and_true, true_and] at h'
    obtain ⟨rfl, rfl⟩ := h'
    exact ⟨hnc, hcm⟩
theorem below_puts {B g : Nat} {a : World} (hb : B ≤ g) : ∀ (vs : List Value) (o : Nat) (w : World), Below B a w → Below B a (w.setCells g o vs)
  | [], _, _, h => h
  | v :: r, o, _, h => below_puts hb r (o + 1) _ (h.setCell (p := ⟨g, o, Option.none⟩) hb v)
/-- Where the first sector to be deleted stands. -/
def FstDel (k : Bool) (ps : List Sec) (r : Int) : Prop := (r = -1 ∧ ∀ i, i < ps.length → (drk (ps.getD i sec0).2.2 == k) = true) ∨ ∃ j : Nat, r = j ∧ j < ps.length ∧ (∀ i, i < j → (drk (ps.getD i sec0).2.2 == k) = true) ∧ (drk (ps.getD j sec0).2.2 == k) = false

set_option maxHeartbeats 1000000 in
theorem index_false (v : Value) (B : Nat) (ps : List Sec) (w : World) (hm : ps.length ≤ 1048576) (h : OwnSec w B v ps) :
    Calls Try.prog 67 #[v, .func (.func 57) #[] #[]] w fun e w' => ∃ r, FstDel false ps r ∧ e = .returned (.int .i64 r) ∧ Below w.heap.size w w' := by
  rcases h.form with ⟨rfl, rfl⟩ | ⟨g, cap, rfl, -⟩
  · clear h
    go_enter Try.func67, Try.ntmps67
    go_wp2
    go_rounds 1
    go_ret
    exact ⟨-1, .inl ⟨rfl, fun i h => by cases h⟩, rfl, Below.refl _ _⟩
  · have HO := Lib.hid h
    clear h
    go_enter Try.func67, Try.ntmps67
    go_wp2_with (fail)
    go_loopw [5, 8] (fun v i wr => ∃ k : Nat, k ≤ ps.length ∧ i = .int .i64 k ∧ (∀ i, i < k → (drk (ps.getD i sec0).2.2 == false) = true) ∧ Below w.heap.size w wr) (fun _ i _ => ps.length - (intOf i).toNat)
    case atStart => exact ⟨0, Nat.zero_le _, rfl, fun j hj => by omega, Below.refl _ _⟩
    case round =>
      obtain ⟨k, hk, rfl, hall, hbel⟩ := hrel
      have HALL := Lib.hid hall
      have HB := Lib.hid hbel
      clear hall
      by_cases hlt : k < ps.length
      · obtain ⟨c0, c1, c2⟩ := SecAt.below (HO.out.sec k hlt) hbel
        have HDEL := Lib.hid (fun w => del_false (ps.getD k sec0) w)
        have HV := Lib.hid (show ∀ b, dlB false (ps.getD k sec0).2.2 = b → (drk (ps.getD k sec0).2.2 == false) = !b from fun b hb => by rw [← hb]; unfold dlB; simp)
        cases hd : dlB false (ps.getD k sec0).2.2
        · have HV2 := Lib.hid (HV.out _ hd)
          rw [hd] at HDEL
          generalize (ps.getD k sec0).1 = f at *
          generalize (ps.getD k sec0).2.1 = t at *
          have hkn : (k : Int) < (ps.length : Int) := by omega
          clear hbel hd HV
          obtain ⟨x, hx⟩ : ∃ x, x = (ps.getD k sec0).2.2 := ⟨_, rfl⟩
          rw [← hx] at c2 HDEL
          clear hx
          go_wp2_with (go_at_call 57; refine (HDEL.out _).mono ?_; rintro e w1 ⟨rfl, hb⟩; refine Hid.out ?_)
          refine Lib.hid ?_
          have HB1 := Lib.hid (HB.out.trans (hb.mono HB.out.size))
          clear hb
          go_wp2_with (fail)
          go_roundw
          case rel => exact ⟨k + 1, by omega, by go_num, fun j hj => by
            by_cases e : j < k
            · exact HALL.out j e
            · obtain rfl : j = k := by omega
              exact HV2.out, HB1.out⟩
          case measure => simp [intOf]; omega
        · have HV2 := Lib.hid (HV.out _ hd)
          rw [hd] at HDEL
          generalize (ps.getD k sec0).1 = f at *
          generalize (ps.getD k sec0).2.1 = t at *
          have hkn : (k : Int) < (ps.length : Int) := by omega
          clear hbel hd HV
          obtain ⟨x, hx⟩ : ∃ x, x = (ps.getD k sec0).2.2 := ⟨_, rfl⟩
          rw [← hx] at c2 HDEL
          clear hx
          go_wp2_with (go_at_call 57; refine (HDEL.out _).mono ?_; rintro e w1 ⟨rfl, hb⟩; refine Hid.out ?_)
          refine Lib.hid ?_
          have HB1 := Lib.hid (HB.out.trans (hb.mono HB.out.size))
          clear hb
          go_wp2_with (fail)
          go_ret
          exact ⟨k, .inr ⟨k, rfl, hlt, HALL.out, HV2.out⟩, rfl, HB1.out⟩
      · obtain rfl : k = ps.length := by omega
        clear hbel
        go_wp2
        go_ret
        exact ⟨-1, .inl ⟨rfl, HALL.out⟩, rfl, HB.out⟩
set_option maxHeartbeats 4000000 in
theorem delete_false (v : Value) (B : Nat) (ps : List Sec) (w : World) (hB : B ≤ w.heap.size) (hm : ps.length ≤ 1048576) (h : OwnSec w B v ps) :
    Calls Try.prog 54 #[v, .func (.func 57) #[] #[]] w fun e w' => ∃ v, e = .returned v ∧ OwnSec w' B v (flt false ps) ∧ Below B w w' := by
  have HI := Lib.hid (index_false v B ps w hm h)
  have HO := Lib.hid h
  by_cases hall : ∀ i, i < ps.length → (drk (ps.getD i sec0).2.2 == false) = true
  · have HF := Lib.hid (show flt false ps = ps by have h := flt_all false ps ps.length (Nat.le_refl _) hall; rwa [List.take_of_length_le (Nat.le_refl _)] at h)
    have HA := Lib.hid hall
    clear hall h
    go_enter Try.func54, Try.ntmps54
    go_wp2_with (go_at_call 67; refine HI.out.mono ?_; rintro e w1 ⟨r, hr, rfl, hb⟩; refine Hid.out ?_)
    refine Lib.hid ?_
    obtain rfl : r = -1 := by
      rcases hr with ⟨rfl, _⟩ | ⟨j, rfl, h1, _, h2⟩
      · rfl
      · rw [HA.out j h1] at h2; cases h2
    have HB := Lib.hid hb
    clear hr hb
    go_wp2_with (fail)
    go_ret
    exact ⟨_, rfl, by rw [HF.out]; exact HO.out.below HB.out, HB.out.mono hB⟩
  rcases h.form with ⟨rfl, rfl⟩ | ⟨g, cap, rfl, hg⟩
  · exact absurd (fun i (hi : i < ([] : List Sec).length) => by cases hi) hall
  have HA := Lib.hid hall
  clear hall h
  go_enter Try.func54, Try.ntmps54
  go_wp2_with (go_at_call 67; refine HI.out.mono ?_; rintro e w1 ⟨r, hr, rfl, hb⟩; refine Hid.out ?_)
  refine Lib.hid ?_
  obtain ⟨q, rfl, hq, HK, HD⟩ : ∃ j : Nat, r = j ∧ j < ps.length ∧ (∀ i, i < j → (drk (ps.getD i sec0).2.2 == false) = true) ∧ (drk (ps.getD j sec0).2.2 == false) = false := by
    rcases hr with ⟨rfl, h⟩ | h
    · exact absurd h HA.out
    · exact h
  have HO1 := Lib.hid (HO.out.below hb)
  have HB1 := Lib.hid (hb.mono hB)
  have hs := stp_skip false ps q hq HD
  have ha := flt_all false ps q (by omega) HK
  have hsa := stp_all false ps q (by omega) HK
  have hl0 : (flt false (ps.take (q + 1))).length = q := by rw [hs.1, ha, List.length_take]; omega
  have HS0 := Lib.hid (show stp false ps (q + 1) = ps by rw [hs.2, hsa])
  have HL0 := Lib.hid hl0
  have hne1 : ((q : Int) == -1) = false := beq_eq_false_iff_ne.2 (by omega)
  have hne2 : ¬ (q : Int) = -1 := by omega
  have hgs := (World.ownsRow.lt HO1.out g rfl).1
  clear hr hb hs ha hsa hl0 HA HK HD HI
  go_wp2_with (fail)
  go_loopw [5, 6, 7] (fun i j c wr => ∃ n : Nat, n ≤ ps.length ∧ (flt false (ps.take n)).length < n ∧ j = .int .i64 n ∧ i = .int .i64 ((flt false (ps.take n)).length : Nat) ∧ OwnSec wr B (.slice (some ⟨g, 0, none⟩) ps.length cap) (stp false ps n) ∧ Below B w wr) (fun _ j _ _ => ps.length - (intOf j).toNat)
  case atStart => exact ⟨q + 1, by omega, by rw [HL0.out]; omega, by go_num, by rw [HL0.out], by rw [HS0.out]; exact HO1.out, HB1.out⟩
  case round =>
    obtain ⟨n, hn, hin, rfl, rfl, hown, hbel⟩ := hrel
    have hRl := stp_len false ps n hn
    obtain ⟨i, hi⟩ : ∃ i, i = (flt false (ps.take n)).length := ⟨_, rfl⟩
    rw [← hi] at hin ⊢
    by_cases hlt : n < ps.length
    · have HKP := Lib.hid (stp_keep false ps n hlt)
      have HSK := Lib.hid (stp_skip false ps n hlt)
      have hat := stp_at false ps n hlt
      rw [← hi] at HKP
      obtain ⟨⟨f, t, x⟩, hp⟩ : ∃ p, p = ps.getD n sec0 := ⟨_, rfl⟩
      rw [← hp] at HKP HSK hat
      obtain ⟨R, hR⟩ : ∃ R, R = stp false ps n := ⟨_, rfl⟩
      rw [← hR] at hown hRl hat HKP HSK
      rw [← hRl] at hown
      have hsec := hown.sec n (by omega)
      rw [hat] at hsec
      obtain ⟨c0, c1, c2⟩ := hsec
      simp only at c0 c1 c2
      have hgw := (World.ownsRow.lt hown g rfl).2
      have hbx : Below wr.heap.size wr (wr.alloc (.cells #[.int .i64 f, .int .i64 t, .string x] 26)) := (Below.refl _ _).alloc (Nat.le_refl _) _
      have HOX := Lib.hid (hown.below hbx)
      have HBX := Lib.hid (hbel.trans (hbx.mono (Nat.le_trans (by omega : B ≤ g) (Nat.le_of_lt hgw))))
      have HDEL := Lib.hid (fun w => (show Calls Try.prog 57 #[.agg #[.int .i64 f, .int .i64 t, .string x]] w fun e w' => e = .returned (.bool (dlB false x)) ∧ Below w.heap.size w w' from del_false (f, t, x) w))
      have HRL := Lib.hid hRl
      have HII := Lib.hid hi
      have hnn : (n : Int) < (ps.length : Int) := by omega
      have hii : (i : Int) < (ps.length : Int) := by omega
      have hx0 : ∀ j u, [Value.int .i64 f, .int .i64 t, .string x][j]? = some u → (wr.alloc (.cells #[.int .i64 f, .int .i64 t, .string x] 26)).cell? ((⟨wr.heap.size, 0, none⟩ : Addr).add j) = some u := sec_cells wr (f, t, x) _
      have HX := Lib.hid hx0
      cases hd : dlB false x
      · obtain ⟨HST0, HL1⟩ := HKP.out (dlB_keep.1 hd)
        have HST := Lib.hid HST0
        have HL := Lib.hid HL1
        rw [hd] at HDEL
        clear HST0 HL1 HKP HSK hd hown hbel hR hp hat hRl hbx hi hx0
        go_wp2_with (go_at_call 57; refine (HDEL.out _).mono ?_; rintro e w1 ⟨rfl, hb⟩; refine Hid.out ?_)
        refine Lib.hid ?_
        have HO1 := Lib.hid (HOX.out.below hb)
        have HB1 := Lib.hid (HBX.out.trans (hb.mono (Nat.le_trans hB HBX.out.size)))
        have k0 : w1.cell? ⟨wr.heap.size, 0, none⟩ = some (.int .i64 f) := cell_below (by simp) hb
        have k1 : w1.cell? ⟨wr.heap.size, 1, none⟩ = some (.int .i64 t) := cell_below (by simp) hb
        have k2 : w1.cell? ⟨wr.heap.size, 2, none⟩ = some (.string x) := cell_below (by simp) hb
        obtain ⟨o0, o1, o2⟩ := HO1.out.sec i (by have := HRL.out; omega)
        have f0 := World.ownsRow.frozenAt HO1.out (i * 3)
        have f1 := World.ownsRow.frozenAt HO1.out (i * 3 + 1)
        have f2 := World.ownsRow.frozenAt HO1.out (i * 3 + 2)
        have HPT := Lib.hid (HO1.out.put3 i (by have := HRL.out; omega) (f, t, x))
        have HBP := Lib.hid (((HB1.out.setCell (p := ⟨g, i * 3, none⟩) hg (.int .i64 f)).setCell (p := ⟨g, i * 3 + 1, none⟩) hg (.int .i64 t)).setCell (p := ⟨g, i * 3 + 2, none⟩) hg (.string x))
        rw [HST.out, HRL.out] at HPT
        clear hb
        go_wp2_with (fail)
        go_roundw
        case rel => exact ⟨n + 1, by omega, by rw [HL.out]; omega, by go_num, by rw [HL.out]; go_num, HPT.out, HBP.out⟩
        case measure => simp [intOf]; omega
      · obtain ⟨HL0, HS0⟩ := HSK.out (dlB_del.1 hd)
        have HL := Lib.hid HL0
        have HS := Lib.hid HS0
        rw [hd] at HDEL
        have HRR := Lib.hid hR
        clear HL0 HS0 HKP HSK hd hown hbel hR hp hat hRl hbx hi hx0
        go_wp2_with (go_at_call 57; refine (HDEL.out _).mono ?_; rintro e w1 ⟨rfl, hb⟩; refine Hid.out ?_)
        refine Lib.hid ?_
        have HO1 := Lib.hid (HOX.out.below hb)
        have HB1 := Lib.hid (HBX.out.trans (hb.mono (Nat.le_trans hB HBX.out.size)))
        rw [HRL.out] at HO1
        clear hb
        go_wp2_with (fail)
        go_roundw
        case rel => exact ⟨n + 1, by omega, by rw [HL.out, ← HII.out]; omega, by go_num, by rw [HL.out, ← HII.out], by rw [HS.out]; exact HO1.out, HB1.out⟩
        case measure => simp [intOf]; omega
    · have hne : n = ps.length := by omega
      have HFE := Lib.hid (show (stp false ps n).take i = flt false ps ∧ i = (flt false ps).length by
        have e : (flt false (ps.take n)).length = (flt false ps).length := by rw [hne, List.take_of_length_le (Nat.le_refl _)]
        rw [hi, e]
        refine ⟨?_, rfl⟩
        rw [hne]
        exact stp_end false ps)
      obtain ⟨R, hR⟩ : ∃ R, R = stp false ps n := ⟨_, rfl⟩
      rw [← hR] at hown hRl HFE
      obtain ⟨m, hm⟩ : ∃ m, m = ps.length := ⟨_, rfl⟩
      have hown2 : wr.ownsRow B 26 3 (.slice (some ⟨g, 0, none⟩) m cap) m (secV R) := by
        have h := hown
        unfold OwnSec at h
        rwa [hRl, ← hm] at h
      rw [← hm] at hne ⊢
      subst hne
      obtain ⟨hcp, hcm⟩ := own_cap hown2
      obtain ⟨vs, hcl⟩ : ∃ vs, ∀ ty, (Builtin.clear_ #[32] ty #[.slice (some ⟨g, i * 3, none⟩) (n - i) (cap - i)]).run Try.prog wr = .ok (.tuple #[]) (wr.setCells g (i * 3) vs) := clear_secs wr g i n cap B _ hin hown2
      obtain ⟨xs', hx1, hx2⟩ := own_puts vs (i * 3) wr _ hown2
      have HCUT := Lib.hid (own_cut hx1 (Nat.le_of_lt hin))
      have HBF := Lib.hid (below_puts hg vs (i * 3) wr hbel)
      have HXE := Lib.hid (show xs'.take (i * 3) = secV (flt false ps) by
        have e : R = R.take i ++ R.drop i := (List.take_append_drop _ _).symm
        have hl : (secV (R.take i)).length = i * 3 := by rw [secV_len, List.length_take]; omega
        rw [hx2, e, secV_app, List.take_left' hl, HFE.out.1])
      rw [HXE.out] at HCUT
      have HIE := Lib.hid HFE.out.2
      have hi1 : (i : Int) ≤ (n : Int) := by omega
      have hi2 : (n : Int) ≤ (cap : Int) := by omega
      have hi3 : (i : Int) ≤ (cap : Int) := by omega
      have hi4 : i ≤ n := by omega
      have hi5 : i ≤ cap := by omega
      have hi6 : ¬ i = cap := by omega
      have hi7 : ¬ i = n := by omega
      clear hx1 hx2 HXE HFE hown2 hown hbel hRl hin hn hi hlt hcm hm
      go_wp2_with (fail)
      go_ret
      exact ⟨_, rfl, by
        have h := HCUT.out
        unfold OwnSec
        rw [← HIE.out]
        exact h, HBF.out⟩

set_option maxHeartbeats 1000000 in
theorem index_true (v : Value) (B : Nat) (ps : List Sec) (w : World) (hm : ps.length ≤ 1048576) (h : OwnSec w B v ps) :
    Calls Try.prog 67 #[v, .func (.func 56) #[] #[]] w fun e w' => ∃ r, FstDel true ps r ∧ e = .returned (.int .i64 r) ∧ Below w.heap.size w w' := by
  rcases h.form with ⟨rfl, rfl⟩ | ⟨g, cap, rfl, -⟩
  · clear h
    go_enter Try.func67, Try.ntmps67
    go_wp2
    go_rounds 1
    go_ret
    exact ⟨-1, .inl ⟨rfl, fun i h => by cases h⟩, rfl, Below.refl _ _⟩
  · have HO := Lib.hid h
    clear h
    go_enter Try.func67, Try.ntmps67
    go_wp2_with (fail)
    go_loopw [5, 8] (fun v i wr => ∃ k : Nat, k ≤ ps.length ∧ i = .int .i64 k ∧ (∀ i, i < k → (drk (ps.getD i sec0).2.2 == true) = true) ∧ Below w.heap.size w wr) (fun _ i _ => ps.length - (intOf i).toNat)
    case atStart => exact ⟨0, Nat.zero_le _, rfl, fun j hj => by omega, Below.refl _ _⟩
    case round =>
      obtain ⟨k, hk, rfl, hall, hbel⟩ := hrel
      have HALL := Lib.hid hall
      have HB := Lib.hid hbel
      clear hall
      by_cases hlt : k < ps.length
      · obtain ⟨c0, c1, c2⟩ := SecAt.below (HO.out.sec k hlt) hbel
        have HDEL := Lib.hid (fun w => del_true (ps.getD k sec0) w)
        have HV := Lib.hid (show ∀ b, dlB true (ps.getD k sec0).2.2 = b → (drk (ps.getD k sec0).2.2 == true) = !b from fun b hb => by rw [← hb]; unfold dlB; simp)
        cases hd : dlB true (ps.getD k sec0).2.2
        · have HV2 := Lib.hid (HV.out _ hd)
          rw [hd] at HDEL
          generalize (ps.getD k sec0).1 = f at *
          generalize (ps.getD k sec0).2.1 = t at *
          have hkn : (k : Int) < (ps.length : Int) := by omega
          clear hbel hd HV
          obtain ⟨x, hx⟩ : ∃ x, x = (ps.getD k sec0).2.2 := ⟨_, rfl⟩
          rw [← hx] at c2 HDEL
          clear hx
          go_wp2_with (go_at_call 56; refine (HDEL.out _).mono ?_; rintro e w1 ⟨rfl, hb⟩; refine Hid.out ?_)
          refine Lib.hid ?_
          have HB1 := Lib.hid (HB.out.trans (hb.mono HB.out.size))
          clear hb
          go_wp2_with (fail)
          go_roundw
          case rel => exact ⟨k + 1, by omega, by go_num, fun j hj => by
            by_cases e : j < k
            · exact HALL.out j e
            · obtain rfl : j = k := by omega
              exact HV2.out, HB1.out⟩
          case measure => simp [intOf]; omega
        · have HV2 := Lib.hid (HV.out _ hd)
          rw [hd] at HDEL
          generalize (ps.getD k sec0).1 = f at *
          generalize (ps.getD k sec0).2.1 = t at *
          have hkn : (k : Int) < (ps.length : Int) := by omega
          clear hbel hd HV
          obtain ⟨x, hx⟩ : ∃ x, x = (ps.getD k sec0).2.2 := ⟨_, rfl⟩
          rw [← hx] at c2 HDEL
          clear hx
          go_wp2_with (go_at_call 56; refine (HDEL.out _).mono ?_; rintro e w1 ⟨rfl, hb⟩; refine Hid.out ?_)
          refine Lib.hid ?_
          have HB1 := Lib.hid (HB.out.trans (hb.mono HB.out.size))
          clear hb
          go_wp2_with (fail)
          go_ret
          exact ⟨k, .inr ⟨k, rfl, hlt, HALL.out, HV2.out⟩, rfl, HB1.out⟩
      · obtain rfl : k = ps.length := by omega
        clear hbel
        go_wp2
        go_ret
        exact ⟨-1, .inl ⟨rfl, HALL.out⟩, rfl, HB.out⟩
set_option maxHeartbeats 4000000 in
theorem delete_true (v : Value) (B : Nat) (ps : List Sec) (w : World) (hB : B ≤ w.heap.size) (hm : ps.length ≤ 1048576) (h : OwnSec w B v ps) :
    Calls Try.prog 54 #[v, .func (.func 56) #[] #[]] w fun e w' => ∃ v, e = .returned v ∧ OwnSec w' B v (flt true ps) ∧ Below B w w' := by
  have HI := Lib.hid (index_true v B ps w hm h)
  have HO := Lib.hid h
  by_cases hall : ∀ i, i < ps.length → (drk (ps.getD i sec0).2.2 == true) = true
  · have HF := Lib.hid (show flt true ps = ps by have h := flt_all true ps ps.length (Nat.le_refl _) hall; rwa [List.take_of_length_le (Nat.le_refl _)] at h)
    have HA := Lib.hid hall
    clear hall h
    go_enter Try.func54, Try.ntmps54
    go_wp2_with (go_at_call 67; refine HI.out.mono ?_; rintro e w1 ⟨r, hr, rfl, hb⟩; refine Hid.out ?_)
    refine Lib.hid ?_
    obtain rfl : r = -1 := by
      rcases hr with ⟨rfl, _⟩ | ⟨j, rfl, h1, _, h2⟩
      · rfl
      · rw [HA.out j h1] at h2; cases h2
    have HB := Lib.hid hb
    clear hr hb
    go_wp2_with (fail)
    go_ret
    exact ⟨_, rfl, by rw [HF.out]; exact HO.out.below HB.out, HB.out.mono hB⟩
  rcases h.form with ⟨rfl, rfl⟩ | ⟨g, cap, rfl, hg⟩
  · exact absurd (fun i (hi : i < ([] : List Sec).length) => by cases hi) hall
  have HA := Lib.hid hall
  clear hall h
  go_enter Try.func54, Try.ntmps54
  go_wp2_with (go_at_call 67; refine HI.out.mono ?_; rintro e w1 ⟨r, hr, rfl, hb⟩; refine Hid.out ?_)
  refine Lib.hid ?_
  obtain ⟨q, rfl, hq, HK, HD⟩ : ∃ j : Nat, r = j ∧ j < ps.length ∧ (∀ i, i < j → (drk (ps.getD i sec0).2.2 == true) = true) ∧ (drk (ps.getD j sec0).2.2 == true) = false := by
    rcases hr with ⟨rfl, h⟩ | h
    · exact absurd h HA.out
    · exact h
  have HO1 := Lib.hid (HO.out.below hb)
  have HB1 := Lib.hid (hb.mono hB)
  have hs := stp_skip true ps q hq HD
  have ha := flt_all true ps q (by omega) HK
  have hsa := stp_all true ps q (by omega) HK
  have hl0 : (flt true (ps.take (q + 1))).length = q := by rw [hs.1, ha, List.length_take]; omega
  have HS0 := Lib.hid (show stp true ps (q + 1) = ps by rw [hs.2, hsa])
  have HL0 := Lib.hid hl0
  have hne1 : ((q : Int) == -1) = false := beq_eq_false_iff_ne.2 (by omega)
  have hne2 : ¬ (q : Int) = -1 := by omega
  have hgs := (World.ownsRow.lt HO1.out g rfl).1
  clear hr hb hs ha hsa hl0 HA HK HD HI
  go_wp2_with (fail)
  go_loopw [5, 6, 7] (fun i j c wr => ∃ n : Nat, n ≤ ps.length ∧ (flt true (ps.take n)).length < n ∧ j = .int .i64 n ∧ i = .int .i64 ((flt true (ps.take n)).length : Nat) ∧ OwnSec wr B (.slice (some ⟨g, 0, none⟩) ps.length cap) (stp true ps n) ∧ Below B w wr) (fun _ j _ _ => ps.length - (intOf j).toNat)
  case atStart => exact ⟨q + 1, by omega, by rw [HL0.out]; omega, by go_num, by rw [HL0.out], by rw [HS0.out]; exact HO1.out, HB1.out⟩
  case round =>
    obtain ⟨n, hn, hin, rfl, rfl, hown, hbel⟩ := hrel
    have hRl := stp_len true ps n hn
    obtain ⟨i, hi⟩ : ∃ i, i = (flt true (ps.take n)).length := ⟨_, rfl⟩
    rw [← hi] at hin ⊢
    by_cases hlt : n < ps.length
    · have HKP := Lib.hid (stp_keep true ps n hlt)
      have HSK := Lib.hid (stp_skip true ps n hlt)
      have hat := stp_at true ps n hlt
      rw [← hi] at HKP
      obtain ⟨⟨f, t, x⟩, hp⟩ : ∃ p, p = ps.getD n sec0 := ⟨_, rfl⟩
      rw [← hp] at HKP HSK hat
      obtain ⟨R, hR⟩ : ∃ R, R = stp true ps n := ⟨_, rfl⟩
      rw [← hR] at hown hRl hat HKP HSK
      rw [← hRl] at hown
      have hsec := hown.sec n (by omega)
      rw [hat] at hsec
      obtain ⟨c0, c1, c2⟩ := hsec
      simp only at c0 c1 c2
      have hgw := (World.ownsRow.lt hown g rfl).2
      have hbx : Below wr.heap.size wr (wr.alloc (.cells #[.int .i64 f, .int .i64 t, .string x] 26)) := (Below.refl _ _).alloc (Nat.le_refl _) _
      have HOX := Lib.hid (hown.below hbx)
      have HBX := Lib.hid (hbel.trans (hbx.mono (Nat.le_trans (by omega : B ≤ g) (Nat.le_of_lt hgw))))
      have HDEL := Lib.hid (fun w => (show Calls Try.prog 56 #[.agg #[.int .i64 f, .int .i64 t, .string x]] w fun e w' => e = .returned (.bool (dlB true x)) ∧ Below w.heap.size w w' from del_true (f, t, x) w))
      have HRL := Lib.hid hRl
      have HII := Lib.hid hi
      have hnn : (n : Int) < (ps.length : Int) := by omega
      have hii : (i : Int) < (ps.length : Int) := by omega
      have hx0 : ∀ j u, [Value.int .i64 f, .int .i64 t, .string x][j]? = some u → (wr.alloc (.cells #[.int .i64 f, .int .i64 t, .string x] 26)).cell? ((⟨wr.heap.size, 0, none⟩ : Addr).add j) = some u := sec_cells wr (f, t, x) _
      have HX := Lib.hid hx0
      cases hd : dlB true x
      · obtain ⟨HST0, HL1⟩ := HKP.out (dlB_keep.1 hd)
        have HST := Lib.hid HST0
        have HL := Lib.hid HL1
        rw [hd] at HDEL
        clear HST0 HL1 HKP HSK hd hown hbel hR hp hat hRl hbx hi hx0
        go_wp2_with (go_at_call 56; refine (HDEL.out _).mono ?_; rintro e w1 ⟨rfl, hb⟩; refine Hid.out ?_)
        refine Lib.hid ?_
        have HO1 := Lib.hid (HOX.out.below hb)
        have HB1 := Lib.hid (HBX.out.trans (hb.mono (Nat.le_trans hB HBX.out.size)))
        have k0 : w1.cell? ⟨wr.heap.size, 0, none⟩ = some (.int .i64 f) := cell_below (by simp) hb
        have k1 : w1.cell? ⟨wr.heap.size, 1, none⟩ = some (.int .i64 t) := cell_below (by simp) hb
        have k2 : w1.cell? ⟨wr.heap.size, 2, none⟩ = some (.string x) := cell_below (by simp) hb
        obtain ⟨o0, o1, o2⟩ := HO1.out.sec i (by have := HRL.out; omega)
        have f0 := World.ownsRow.frozenAt HO1.out (i * 3)
        have f1 := World.ownsRow.frozenAt HO1.out (i * 3 + 1)
        have f2 := World.ownsRow.frozenAt HO1.out (i * 3 + 2)
        have HPT := Lib.hid (HO1.out.put3 i (by have := HRL.out; omega) (f, t, x))
        have HBP := Lib.hid (((HB1.out.setCell (p := ⟨g, i * 3, none⟩) hg (.int .i64 f)).setCell (p := ⟨g, i * 3 + 1, none⟩) hg (.int .i64 t)).setCell (p := ⟨g, i * 3 + 2, none⟩) hg (.string x))
        rw [HST.out, HRL.out] at HPT
        clear hb
        go_wp2_with (fail)
        go_roundw
        case rel => exact ⟨n + 1, by omega, by rw [HL.out]; omega, by go_num, by rw [HL.out]; go_num, HPT.out, HBP.out⟩
        case measure => simp [intOf]; omega
      · obtain ⟨HL0, HS0⟩ := HSK.out (dlB_del.1 hd)
        have HL := Lib.hid HL0
        have HS := Lib.hid HS0
        rw [hd] at HDEL
        have HRR := Lib.hid hR
        clear HL0 HS0 HKP HSK hd hown hbel hR hp hat hRl hbx hi hx0
        go_wp2_with (go_at_call 56; refine (HDEL.out _).mono ?_; rintro e w1 ⟨rfl, hb⟩; refine Hid.out ?_)
        refine Lib.hid ?_
        have HO1 := Lib.hid (HOX.out.below hb)
        have HB1 := Lib.hid (HBX.out.trans (hb.mono (Nat.le_trans hB HBX.out.size)))
        rw [HRL.out] at HO1
        clear hb
        go_wp2_with (fail)
        go_roundw
        case rel => exact ⟨n + 1, by omega, by rw [HL.out, ← HII.out]; omega, by go_num, by rw [HL.out, ← HII.out], by rw [HS.out]; exact HO1.out, HB1.out⟩
        case measure => simp [intOf]; omega
    · have hne : n = ps.length := by omega
      have HFE := Lib.hid (show (stp true ps n).take i = flt true ps ∧ i = (flt true ps).length by
        have e : (flt true (ps.take n)).length = (flt true ps).length := by rw [hne, List.take_of_length_le (Nat.le_refl _)]
        rw [hi, e]
        refine ⟨?_, rfl⟩
        rw [hne]
        exact stp_end true ps)
      obtain ⟨R, hR⟩ : ∃ R, R = stp true ps n := ⟨_, rfl⟩
      rw [← hR] at hown hRl HFE
      obtain ⟨m, hm⟩ : ∃ m, m = ps.length := ⟨_, rfl⟩
      have hown2 : wr.ownsRow B 26 3 (.slice (some ⟨g, 0, none⟩) m cap) m (secV R) := by
        have h := hown
        unfold OwnSec at h
        rwa [hRl, ← hm] at h
      rw [← hm] at hne ⊢
      subst hne
      obtain ⟨hcp, hcm⟩ := own_cap hown2
      obtain ⟨vs, hcl⟩ : ∃ vs, ∀ ty, (Builtin.clear_ #[32] ty #[.slice (some ⟨g, i * 3, none⟩) (n - i) (cap - i)]).run Try.prog wr = .ok (.tuple #[]) (wr.setCells g (i * 3) vs) := clear_secs wr g i n cap B _ hin hown2
      obtain ⟨xs', hx1, hx2⟩ := own_puts vs (i * 3) wr _ hown2
      have HCUT := Lib.hid (own_cut hx1 (Nat.le_of_lt hin))
      have HBF := Lib.hid (below_puts hg vs (i * 3) wr hbel)
      have HXE := Lib.hid (show xs'.take (i * 3) = secV (flt true ps) by
        have e : R = R.take i ++ R.drop i := (List.take_append_drop _ _).symm
        have hl : (secV (R.take i)).length = i * 3 := by rw [secV_len, List.length_take]; omega
        rw [hx2, e, secV_app, List.take_left' hl, HFE.out.1])
      rw [HXE.out] at HCUT
      have HIE := Lib.hid HFE.out.2
      have hi1 : (i : Int) ≤ (n : Int) := by omega
      have hi2 : (n : Int) ≤ (cap : Int) := by omega
      have hi3 : (i : Int) ≤ (cap : Int) := by omega
      have hi4 : i ≤ n := by omega
      have hi5 : i ≤ cap := by omega
      have hi6 : ¬ i = cap := by omega
      have hi7 : ¬ i = n := by omega
      clear hx1 hx2 HXE HFE hown2 hown hbel hRl hin hn hi hlt hcm hm
      go_wp2_with (fail)
      go_ret
      exact ⟨_, rfl, by
        have h := HCUT.out
        unfold OwnSec
        rw [← HIE.out]
        exact h, HBF.out⟩
end Go.Proofs.Ytclbpjjnhfllkaa
