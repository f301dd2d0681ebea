/- The model's reading of a time of day, and its exported readings. -/
import Derived.Test.YtjjkbbcpihaphaaDoorRds
namespace Go.Proofs.YtjjkbbcpihaphaaDoor
open Go.ChangeShapes Go.WideShapes Go.ChangeAt Go.RowKit Pm

/-- What it is to be the minutes with a text. -/
def ClockIs (s : ByteArray) (v : Int × Bool) : Prop :=
  (∃ t : Nat, t ≤ 1439 ∧ s = clockS t ∧ v = ((t : Int), true)) ∨ ((∀ t : Nat, t ≤ 1439 → s ≠ clockS t) ∧ v = (0, false))
theorem clockS_inj {t t' : Nat} (h : clockS t = clockS t') (b : t ≤ 1439) (b' : t' ≤ 1439) : t = t' := by
  have h1 : clockL t = clockL t' := by
    have : (clockS t).data.toList = (clockS t').data.toList := by rw [h]
    exact this
  have e1 : d2 (t / 60) = d2 (t' / 60) := congrArg (fun l => l.take 2) h1
  have e2 : d2 (t % 60) = d2 (t' % 60) := congrArg (fun l => l.drop 3) h1
  have q1 : t / 60 = t' / 60 := by rw [← dv_two (show t / 60 < 100 by omega), ← dv_two (show t' / 60 < 100 by omega), e1]
  have q2 : t % 60 = t' % 60 := by rw [← dv_two (show t % 60 < 100 by omega), ← dv_two (show t' % 60 < 100 by omega), e2]
  omega
theorem ClockIs.one {s : ByteArray} {v u : Int × Bool} (h : ClockIs s v) (k : ClockIs s u) : v = u := by
  rcases h with ⟨t, h1, h2, rfl⟩ | ⟨h1, rfl⟩ <;> rcases k with ⟨t', k1, k2, rfl⟩ | ⟨k1, rfl⟩
  · rw [clockS_inj (h2.symm.trans k2) h1 k1]
  · exact absurd h2 (k1 t h1)
  · exact absurd k2 (h1 t' k1)
  · rfl
theorem fifth {α : Type} (l : List α) (h : l.length = 5) : ∃ a b c d e, l = [a, b, c, d, e] := by
  match l, h with
  | [a, b, c, d, e], _ => exact ⟨a, b, c, d, e, rfl⟩

set_option maxRecDepth 100000 in
set_option maxHeartbeats 2000000 in
theorem sreadclock_ex (s : ByteArray) :
    ∃ v, ClockIs s v ∧ ∀ w, Calls Tryd.prog 32 #[.string s] w (SameIB v.1 v.2 w) := by
  by_cases hsz : s.size = 5
  · have h2 : 2 < s.size := by omega
    have z1 : ((s.size : Int) == 5) = true := by rw [beq_iff_eq]; omega
    have z2 : ((s.size : Int) != 5) = false := by rw [bne, z1]; rfl
    by_cases c2 : s[2].toNat = 58
    · have x1 : ((s[2].toNat : Int) == 58) = true := by rw [beq_iff_eq]; omega
      have x2 : ((s[2].toNat : Int) != 58) = false := by rw [bne, x1]; rfl
      have HA := Lib.hid (fun w => sdigits_any (s.extract 0 2) w (by rw [ByteArray.size_extract]; omega))
      have HB := Lib.hid (fun w => sdigits_any (s.extract 3 5) w (by rw [ByteArray.size_extract]; omega))
      rw [piece_list] at HA HB
      obtain ⟨a, b, c, d, e, hl⟩ := fifth s.data.toList (by rw [size_list]; exact hsz)
      have hc : c.toNat = 58 := by
        have : s[2] = c := by show s.data.toList[2]'_ = c; simp only [hl]; rfl
        rw [← this]; exact c2
      rw [hl] at HA HB
      have HA := Lib.hid (show ∀ w, Calls Tryd.prog 53 #[.string (s.extract 0 2)] w (SameIB (digV [a, b]) (allD [a, b]) w) from HA.out)
      have HB := Lib.hid (show ∀ w, Calls Tryd.prog 53 #[.string (s.extract 3 5)] w (SameIB (digV [d, e]) (allD [d, e]) w) from HB.out)
      have hno : ∀ t : Nat, s = clockS t → [a, b] = d2 (t / 60) ∧ [d, e] = d2 (t % 60) := fun t h3 => by
        have h1 : [a, b, c, d, e] = clockL t := by rw [← hl, h3]; rfl
        exact ⟨congrArg (fun l => l.take 2) h1, congrArg (fun l => l.drop 3) h1⟩
      have ae : ∀ t : List UInt8, allD t = t.all isD := fun _ => rfl
      have HL := Lib.hid hl
      clear hl
      cases k1 : allD [a, b]
      · refine ⟨(0, false), .inr ⟨fun t h1 h3 => ?_, rfl⟩, fun w => ?_⟩
        · have := (hno t h3).1
          rw [ae, this, all_two (by omega)] at k1; cases k1
        · rw [k1] at HA
          clear hno HL k1 ae c2 hc
          cases k2 : allD [d, e]
          all_goals
            rw [k2] at HB
            clear k2
            go_enter Tryd.func32, Tryd.ntmps32
            go_wp2_with (first
              | (go_at_call 53; ((with_reducible refine (HA.out _).mono ?_); rintro e w1 ⟨rfl, rfl⟩))
              | (go_at_call 53; ((with_reducible refine (HB.out _).mono ?_); rintro e w1 ⟨rfl, rfl⟩)))
            go_ret2
            exact ⟨rfl, rfl⟩
      · cases k2 : allD [d, e]
        · refine ⟨(0, false), .inr ⟨fun t h1 h3 => ?_, rfl⟩, fun w => ?_⟩
          · have := (hno t h3).2
            rw [ae, this, all_two (by omega)] at k2; cases k2
          · rw [k1] at HA
            rw [k2] at HB
            clear hno HL k1 k2 ae c2 hc
            go_enter Tryd.func32, Tryd.ntmps32
            go_wp2_with (first
              | (go_at_call 53; ((with_reducible refine (HA.out _).mono ?_); rintro e w1 ⟨rfl, rfl⟩))
              | (go_at_call 53; ((with_reducible refine (HB.out _).mono ?_); rintro e w1 ⟨rfl, rfl⟩)))
            go_ret2
            exact ⟨rfl, rfl⟩
        · have v1 : digV [a, b] = (dv 0 [a, b] : Int) := digV_yes k1
          have v2 : digV [d, e] = (dv 0 [d, e] : Int) := digV_yes k2
          obtain ⟨p1, p2⟩ := two_of_digits k1
          obtain ⟨p3, p4⟩ := two_of_digits k2
          rw [k1, v1] at HA
          rw [k2, v2] at HB
          have hnum : ∀ t : Nat, t ≤ 1439 → s = clockS t → t / 60 = dv 0 [a, b] ∧ t % 60 = dv 0 [d, e] := fun t h1 h3 => by
            obtain ⟨q1, q2⟩ := hno t h3
            exact ⟨by rw [q1, dv_two (by omega)], by rw [q2, dv_two (by omega)]⟩
          have hsd : dv 0 [d, e] < 60 → s = clockS (60 * dv 0 [a, b] + dv 0 [d, e]) := fun hlt => by
            refine WideShapes.bytes_inj ?_
            rw [HL.out, show (clockS (60 * dv 0 [a, b] + dv 0 [d, e])).data.toList = clockL (60 * dv 0 [a, b] + dv 0 [d, e]) from rfl]
            unfold clockL
            rw [show (60 * dv 0 [a, b] + dv 0 [d, e]) / 60 = dv 0 [a, b] by omega, show (60 * dv 0 [a, b] + dv 0 [d, e]) % 60 = dv 0 [d, e] by omega, p1, p3, show c = 58 from UInt8.toNat_inj.1 hc]
            rfl
          obtain ⟨H, hH⟩ : ∃ H, H = dv 0 [a, b] := ⟨_, rfl⟩
          obtain ⟨M, hM⟩ : ∃ M, M = dv 0 [d, e] := ⟨_, rfl⟩
          rw [← hH] at HA hnum hsd p2
          rw [← hM] at HB hnum hsd p4
          have i1 : (H : Int) < 100 := by omega
          have i2 : (M : Int) < 100 := by omega
          by_cases q1 : 23 < H
          · refine ⟨(0, false), .inr ⟨fun t h1 h3 => ?_, rfl⟩, fun w => ?_⟩
            · have := (hnum t h1 h3).1; omega
            · have j1 : 23 < (H : Int) := by omega
              clear hno HL k1 k2 ae c2 hc hnum hsd p1 p2 p3 p4 hH hM v1 v2 q1
              by_cases q2 : 59 < M
              · have j2 : 59 < (M : Int) := by omega
                go_enter Tryd.func32, Tryd.ntmps32
                go_wp2_with (first
                  | (go_at_call 53; ((with_reducible refine (HA.out _).mono ?_); rintro e w1 ⟨rfl, rfl⟩))
                  | (go_at_call 53; ((with_reducible refine (HB.out _).mono ?_); rintro e w1 ⟨rfl, rfl⟩)))
                go_ret2
                exact ⟨rfl, rfl⟩
              · have j2 : (M : Int) ≤ 59 := by omega
                go_enter Tryd.func32, Tryd.ntmps32
                go_wp2_with (first
                  | (go_at_call 53; ((with_reducible refine (HA.out _).mono ?_); rintro e w1 ⟨rfl, rfl⟩))
                  | (go_at_call 53; ((with_reducible refine (HB.out _).mono ?_); rintro e w1 ⟨rfl, rfl⟩)))
                go_ret2
                exact ⟨rfl, rfl⟩
          · have j1 : (H : Int) ≤ 23 := by omega
            by_cases q2 : 59 < M
            · refine ⟨(0, false), .inr ⟨fun t h1 h3 => ?_, rfl⟩, fun w => ?_⟩
              · have := (hnum t h1 h3).2; omega
              · have j2 : 59 < (M : Int) := by omega
                clear hno HL k1 k2 ae c2 hc hnum hsd p1 p2 p3 p4 hH hM v1 v2 q1 q2
                go_enter Tryd.func32, Tryd.ntmps32
                go_wp2_with (first
                  | (go_at_call 53; ((with_reducible refine (HA.out _).mono ?_); rintro e w1 ⟨rfl, rfl⟩))
                  | (go_at_call 53; ((with_reducible refine (HB.out _).mono ?_); rintro e w1 ⟨rfl, rfl⟩)))
                go_ret2
                exact ⟨rfl, rfl⟩
            · refine ⟨(((60 * H + M : Nat) : Int), true), .inl ⟨60 * H + M, by omega, hsd (by omega), rfl⟩, fun w => ?_⟩
              have j2 : (M : Int) ≤ 59 := by omega
              have HV := Lib.hid (show 60 * (H : Int) + M = ((60 * H + M : Nat) : Int) by omega)
              clear hno HL k1 k2 ae c2 hc hnum hsd p1 p2 p3 p4 hH hM v1 v2 q1 q2
              go_enter Tryd.func32, Tryd.ntmps32
              go_wp2_with (first
                | (go_at_call 53; ((with_reducible refine (HA.out _).mono ?_); rintro e w1 ⟨rfl, rfl⟩))
                | (go_at_call 53; ((with_reducible refine (HB.out _).mono ?_); rintro e w1 ⟨rfl, rfl⟩)))
              go_ret2
              exact ⟨retIB HV.out rfl, rfl⟩
    · refine ⟨(0, false), .inr ⟨fun t h1 h3 => ?_, rfl⟩, fun w => ?_⟩
      · subst h3; exact c2 rfl
      · have x1 : ((s[2].toNat : Int) == 58) = false := by rw [beq_eq_false_iff_ne]; omega
        have x2 : ((s[2].toNat : Int) != 58) = true := by rw [bne, x1]; rfl
        clear c2 hsz
        go_enter Tryd.func32, Tryd.ntmps32
        go_wp2_with (fail)
        go_ret2
        exact ⟨rfl, rfl⟩
  · refine ⟨(0, false), .inr ⟨fun t h1 h3 => ?_, rfl⟩, fun w => ?_⟩
    · subst h3; exact hsz rfl
    · have z1 : ((s.size : Int) == 5) = false := by rw [beq_eq_false_iff_ne]; omega
      have z2 : ((s.size : Int) != 5) = true := by rw [bne, z1]; rfl
      clear hsz
      go_enter Tryd.func32, Tryd.ntmps32
      go_wp2_with (fail)
      go_ret2
      exact ⟨rfl, rfl⟩
theorem sreaddate_any (s : ByteArray) (v : Int × Bool) (w : World) (h : ∀ w, Calls Tryd.prog 51 #[.string s] w (SameIB v.1 v.2 w)) :
    Calls Tryd.prog 30 #[.string s] w (SameIB v.1 v.2 w) := by
  have H := Lib.hid h
  clear h
  go_enter Tryd.func30, Tryd.ntmps30
  go_wp2_with (first
    | (go_at_call 51; refine (H.out _).mono ?_; rintro e w1 ⟨rfl, rfl⟩))
  go_ret2
  exact ⟨rfl, rfl⟩
end Go.Proofs.YtjjkbbcpihaphaaDoor
