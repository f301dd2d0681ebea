/- The program's reading of a date and of a time: the answers. -/
import Derived.Test.YtjjkbbcpihaphaaDoorRdp
namespace Go.Proofs.YtjjkbbcpihaphaaDoor
open Go.ChangeShapes Go.WideShapes Go.ChangeAt Go.RowKit Pm

theorem parts_date {s : ByteArray} {n : Int} {y m d : Nat} (h1 : DateIs n y m d) (h2 : n ≤ 99999) (h3 : s = dateS y m d) :
    (pcs 45 3 s).length = 3 ∧ (pcs 45 3 s).all pOk = true ∧ (pcs 45 3 s).map pVal = [(y : Int), m, d] := by
  obtain ⟨r1, r2, r3⟩ := date_small h1 h2
  rw [h3, pcs_date r1 r2 r3]
  obtain ⟨a1, a2⟩ := p_four r1
  obtain ⟨b1, b2⟩ := p_two r2
  obtain ⟨c1, c2⟩ := p_two r3
  refine ⟨rfl, ?_, ?_⟩
  · simp only [List.all_cons, List.all_nil, a1, b1, c1]; rfl
  · simp only [List.map_cons, List.map_nil, a2, b2, c2]
theorem parts_clock {s : ByteArray} {t : Nat} (h1 : t ≤ 1439) (h3 : s = clockS t) :
    (pcs 58 2 s).length = 2 ∧ (pcs 58 2 s).all pOk = true ∧ (pcs 58 2 s).map pVal = [((t / 60 : Nat) : Int), ((t % 60 : Nat) : Int)] := by
  rw [h3, pcs_clock h1]
  obtain ⟨a1, a2⟩ := p_two (show t / 60 < 100 by omega)
  obtain ⟨b1, b2⟩ := p_two (show t % 60 < 100 by omega)
  refine ⟨rfl, ?_, ?_⟩
  · simp only [List.all_cons, List.all_nil, a1, b1]; rfl
  · simp only [List.map_cons, List.map_nil, a2, b2]

theorem readdate_ex (s : ByteArray) (hs : s.size ≤ 1048576) :
    ∃ v, ReadIs s v ∧ ∀ w, LenAt7 w → PowAt w → ErrsAt w → MonthsAt w → Calls Tryd.prog 15 #[.string s] w (RetIBr v.1 v.2 w) := by
  by_cases h : (pcs 45 3 s).length = 3 ∧ (pcs 45 3 s).all pOk = true
  · have HY := fun w hl hE => parts_yes s 45 3 w hs (by omega) (by omega) hl hE h
    have hdate := fun (n : Int) (y m d : Nat) h1 h2 h3 => (parts_date (n := n) (y := y) (m := m) (d := d) (s := s) h1 h2 h3).2.2
    obtain ⟨a, b, c, hz⟩ := three_of ((pcs 45 3 s).map pVal) (by rw [List.length_map]; exact h.1)
    rw [hz] at HY hdate
    have HY := (show ∀ w, LenAt7 w → ErrsAt w → Calls Tryd.prog 39 #[.string s, .string ⟨#[45]⟩, .int .i64 3] w (PartsYes [a, b, c] 3 w) from HY)
    have habc : ∀ (n : Int) (y m d : Nat), DateIs n y m d → n ≤ 99999 → s = dateS y m d → a = y ∧ b = m ∧ c = d := fun n y m d h1 h2 h3 => by
      have := hdate n y m d h1 h2 h3
      simpa using this
    cases hok : dayOk a b c
    · refine ⟨(0, false), .inr ⟨fun n y m d h1 h2 h3 => ?_, rfl⟩, fun w hl hP hE hM => rd_bad s a b c w hM hok (HY w hl hE)⟩
      obtain ⟨rfl, rfl, rfl⟩ := habc n y m d h1 h2 h3
      rw [(h1.num h2).2] at hok; cases hok
    · have hok2 := hok
      unfold dayOk at hok2
      rw [Bool.and_eq_true] at hok2
      have hD := find_date hok2.1
      have hn : dnumOf a b c ≤ 99999 := by simpa using hok2.2
      have hdv : dayV a b c = (dnumOf a b c, 0) := by unfold dayV; rw [hok]; rfl
      obtain ⟨y, rfl⟩ := Int.eq_ofNat_of_zero_le (show 0 ≤ a by have := hD.1; omega)
      obtain ⟨m, rfl⟩ := Int.eq_ofNat_of_zero_le (show 0 ≤ b by have := hD.2.1; omega)
      obtain ⟨d, rfl⟩ := Int.eq_ofNat_of_zero_le (show 0 ≤ c by have := hD.2.2.2.1; omega)
      have HT := fun w hM hP => datetext_yes (dnumOf y m d) y m d w hM hP hD hn
      by_cases e : dateS y m d = s
      · exact ⟨(dnumOf y m d, true), .inl ⟨_, y, m, d, hD, hn, e.symm, rfl⟩, fun w hl hP hE hM => rd_good s _ _ _ _ _ w hM hP hdv HT (HY w hl hE) true _ (.inl ⟨e, rfl, rfl⟩)⟩
      · refine ⟨(0, false), .inr ⟨fun n y' m' d' h1 h2 h3 => ?_, rfl⟩, fun w hl hP hE hM => rd_good s _ _ _ _ _ w hM hP hdv HT (HY w hl hE) false _ (.inr ⟨e, rfl, rfl⟩)⟩
        obtain ⟨e1, e2, e3⟩ := habc n y' m' d' h1 h2 h3
        have e1 : y = y' := by omega
        have e2 : m = m' := by omega
        have e3 : d = d' := by omega
        subst e1 e2 e3
        exact e h3.symm
  · refine ⟨(0, false), .inr ⟨fun n y m d h1 h2 h3 => ?_, rfl⟩, fun w hl hP hE hM => rd_none s w (parts_no s 45 3 w hs (by omega) (by omega) hl hE h)⟩
    have := parts_date h1 h2 h3
    exact h ⟨this.1, this.2.1⟩

theorem rc_none (s : ByteArray) (w : World) (HN : Calls Tryd.prog 39 #[.string s, .string ⟨#[58]⟩, .int .i64 2] w (PartsNo w)) :
    Calls Tryd.prog 21 #[.string s] w (RetIBr 0 false w) := by
  have HN := Lib.hid HN
  go_enter Tryd.func21, Tryd.ntmps21
  go_wp2_with (first
    | (go_at_call 39; refine HN.out.mono ?_; rintro e w1 ⟨rfl, hb⟩))
  go_ret2
  exact ⟨rfl, hb⟩

set_option maxHeartbeats 1000000 in
theorem rc_some (s T : ByteArray) (a b : Int) (w : World) (hP : PowAt w) (a0 : -2147483648 ≤ a) (a1 : a ≤ 2147483647) (b0 : -2147483648 ≤ b) (b1 : b ≤ 2147483647)
    (ht : ∀ w, PowAt w → Calls Tryd.prog 22 #[.int .i64 (a * 60 + b)] w fun e w' => e = .returned (.string T) ∧ Below w.heap.size w w')
    (HY : Calls Tryd.prog 39 #[.string s, .string ⟨#[58]⟩, .int .i64 2] w (PartsYes [a, b] 2 w)) (q : Bool) (r : Int) (hq : (T = s ∧ q = true ∧ r = a * 60 + b) ∨ (T ≠ s ∧ q = false ∧ r = 0)) :
    Calls Tryd.prog 21 #[.string s] w (RetIBr r q w) := by
  have HY := Lib.hid HY
  have HP := Lib.hid hP
  have HT := Lib.hid ht
  clear hP ht
  have eW : IntKind.i64.wrap (a * 60) = a * 60 := IntWalk.i64_in _ (by omega)
  have eZ : IntKind.i64.wrap (a * 60 + b) = a * 60 + b := IntWalk.i64_in _ (by omega)
  have HEQ := Lib.hid (And.intro eW eZ)
  clear eW eZ
  rcases hq with ⟨e, rfl, rfl⟩ | ⟨e, rfl, rfl⟩
  · obtain ⟨t1, t2⟩ := str_eq e
    clear e
    go_enter Tryd.func21, Tryd.ntmps21
    go_wp2_with (first
      | (go_at_call 39; refine HY.out.mono ?_; rintro e w1 ⟨g, rfl, hc, hb⟩; have q0 := hc 0 (by omega); have q1 := hc 1 (by omega); have ac := hb; clear hc hb))
    simp only [List.getD_cons_zero, List.getD_cons_succ] at q0 q1
    obtain ⟨eW, eZ⟩ := HEQ.out
    go_region_held3 (fun w' => w'.cell? ⟨g, 0, none⟩ = some (.int .i64 a) ∧ w'.cell? ⟨g, 1, none⟩ = some (.int .i64 b) ∧ Below w.heap.size w w')
      (first | assumption | exact keep2 (by assumption) (by assumption) | exact drew2 (by assumption) | exact drew2 ⟨by assumption, by assumption, by assumption⟩ | exact ⟨by assumption, by assumption, by assumption⟩)
      (fail)
    clear eW eZ
    have ac4 := Lib.hid (keepB2 (by assumption))
    go_wp2_with (first
      | (go_at_call 22; refine (HT.out _ (HP.out.below ac4.out)).mono ?_; rintro e w5 ⟨rfl, hb⟩; have ac5 := Lib.hid (Below.next ac4.out hb); clear hb))
    go_ret2
    exact ⟨rfl, ac5.out⟩
  · obtain ⟨t1, t2⟩ := str_ne e
    clear e
    go_enter Tryd.func21, Tryd.ntmps21
    go_wp2_with (first
      | (go_at_call 39; refine HY.out.mono ?_; rintro e w1 ⟨g, rfl, hc, hb⟩; have q0 := hc 0 (by omega); have q1 := hc 1 (by omega); have ac := hb; clear hc hb))
    simp only [List.getD_cons_zero, List.getD_cons_succ] at q0 q1
    obtain ⟨eW, eZ⟩ := HEQ.out
    go_region_held3 (fun w' => w'.cell? ⟨g, 0, none⟩ = some (.int .i64 a) ∧ w'.cell? ⟨g, 1, none⟩ = some (.int .i64 b) ∧ Below w.heap.size w w')
      (first | assumption | exact keep2 (by assumption) (by assumption) | exact drew2 (by assumption) | exact drew2 ⟨by assumption, by assumption, by assumption⟩ | exact ⟨by assumption, by assumption, by assumption⟩)
      (fail)
    clear eW eZ
    have ac4 := Lib.hid (keepB2 (by assumption))
    go_wp2_with (first
      | (go_at_call 22; refine (HT.out _ (HP.out.below ac4.out)).mono ?_; rintro e w5 ⟨rfl, hb⟩; have ac5 := Lib.hid (Below.next ac4.out hb); clear hb))
    go_ret2
    exact ⟨rfl, ac5.out⟩

theorem readclock_ex (s : ByteArray) (hs : s.size ≤ 1048576) :
    ∃ v, ClockIs s v ∧ ∀ w, LenAt7 w → PowAt w → ErrsAt w → Calls Tryd.prog 21 #[.string s] w (RetIBr v.1 v.2 w) := by
  by_cases h : (pcs 58 2 s).length = 2 ∧ (pcs 58 2 s).all pOk = true
  · have HY := fun w hl hE => parts_yes s 58 2 w hs (by omega) (by omega) hl hE h
    have hclock := fun (t : Nat) h1 h3 => (parts_clock (t := t) (s := s) h1 h3).2.2
    have hlen : ((pcs 58 2 s).map pVal).length = 2 := by rw [List.length_map]; exact h.1
    have hbd : ∀ z ∈ (pcs 58 2 s).map pVal, -2147483648 ≤ z ∧ z ≤ 2147483647 := fun z hz => by
      obtain ⟨p, _, rfl⟩ := List.mem_map.1 hz
      exact pVal_bd p
    obtain ⟨a, b, hz⟩ := two_of' _ hlen
    rw [hz] at HY hclock hbd
    have ha := hbd a (by simp)
    have hb := hbd b (by simp)
    have HY := (show ∀ w, LenAt7 w → ErrsAt w → Calls Tryd.prog 39 #[.string s, .string ⟨#[58]⟩, .int .i64 2] w (PartsYes [a, b] 2 w) from HY)
    have hab : ∀ t : Nat, t ≤ 1439 → s = clockS t → a * 60 + b = t := fun t h1 h3 => by
      have := hclock t h1 h3
      simp at this
      omega
    cases hin : inB 0 1439 [a * 60 + b]
    · have HT := fun w (_ : PowAt w) => clocktext_no (a * 60 + b) w hin
      by_cases e : (⟨#[]⟩ : ByteArray) = s
      · refine ⟨(a * 60 + b, true), ?_, fun w hl hP hE => rc_some s _ a b w hP ha.1 ha.2 hb.1 hb.2 HT (HY w hl hE) true _ (.inl ⟨e, rfl, rfl⟩)⟩
        subst e
        exact absurd h.1 (by
          have : pcs 58 2 (⟨#[]⟩ : ByteArray) = [⟨#[]⟩] := rfl
          rw [this]; decide)
      · refine ⟨(0, false), .inr ⟨fun t h1 h3 => ?_, rfl⟩, fun w hl hP hE => rc_some s _ a b w hP ha.1 ha.2 hb.1 hb.2 HT (HY w hl hE) false _ (.inr ⟨e, rfl, rfl⟩)⟩
        rw [hab t h1 h3] at hin
        simp [inB] at hin; omega
    · have hib : 0 ≤ a * 60 + b ∧ a * 60 + b ≤ 1439 := by simpa [inB] using hin
      obtain ⟨t, ht⟩ := Int.eq_ofNat_of_zero_le hib.1
      have HT := (show ∀ w, PowAt w → Calls Tryd.prog 22 #[.int .i64 (a * 60 + b)] w fun e w' => e = .returned (.string (clockS t)) ∧ Below w.heap.size w w' from fun w hP => by
        rw [ht]; exact clocktext_yes t w hP (by omega))
      by_cases e : clockS t = s
      · exact ⟨(a * 60 + b, true), .inl ⟨t, by omega, e.symm, by rw [ht]⟩, fun w hl hP hE => rc_some s _ a b w hP ha.1 ha.2 hb.1 hb.2 HT (HY w hl hE) true _ (.inl ⟨e, rfl, rfl⟩)⟩
      · refine ⟨(0, false), .inr ⟨fun t' h1 h3 => ?_, rfl⟩, fun w hl hP hE => rc_some s _ a b w hP ha.1 ha.2 hb.1 hb.2 HT (HY w hl hE) false _ (.inr ⟨e, rfl, rfl⟩)⟩
        have := hab t' h1 h3
        obtain rfl : t = t' := by omega
        exact e h3.symm
  · refine ⟨(0, false), .inr ⟨fun t h1 h3 => ?_, rfl⟩, fun w hl hP hE => rc_none s w (parts_no s 58 2 w hs (by omega) (by omega) hl hE h)⟩
    have := parts_clock h1 h3
    exact h ⟨this.1, this.2.1⟩
end Go.Proofs.YtjjkbbcpihaphaaDoor
