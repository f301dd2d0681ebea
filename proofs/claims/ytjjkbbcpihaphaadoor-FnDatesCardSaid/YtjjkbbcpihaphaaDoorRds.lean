/- The model's reading of a date and of a time. -/
import Derived.Test.YtjjkbbcpihaphaaDoorDgt
namespace Go.Proofs.YtjjkbbcpihaphaaDoor
open Go.ChangeShapes Go.WideShapes Go.ChangeAt Go.RowKit Pm

/-- The bytes of a piece. -/
theorem piece_list (s : ByteArray) (a b : Nat) : (s.extract a b).data.toList = (s.data.toList.drop a).take (b - a) := by
  rw [ByteArray.data_extract, Array.toList_extract]
/-- What it is to be the day with a text. -/
def ReadIs (s : ByteArray) (v : Int × Bool) : Prop :=
  (∃ (n : Int) (y m d : Nat), DateIs n y m d ∧ n ≤ 99999 ∧ s = dateS y m d ∧ v = (n, true)) ∨ ((∀ (n : Int) (y m d : Nat), DateIs n y m d → n ≤ 99999 → s ≠ dateS y m d) ∧ v = (0, false))
theorem dateS_list (y m d : Nat) : (dateS y m d).data.toList = dateL y m d := rfl
theorem date_small {n : Int} {y m d : Nat} (h : DateIs n y m d) (hn : n ≤ 99999) : y < 10000 ∧ m < 100 ∧ d < 100 := by
  have hy := h.year hn
  obtain ⟨_, _, a, _, b, _⟩ := h
  have := monthLen_bd y m
  omega
theorem dateS_inj {y m d y' m' d' : Nat} (h : dateS y m d = dateS y' m' d') (b : y < 10000 ∧ m < 100 ∧ d < 100) (b' : y' < 10000 ∧ m' < 100 ∧ d' < 100) : y = y' ∧ m = m' ∧ d = d' := by
  have h1 : dateL y m d = dateL y' m' d' := by rw [← dateS_list, ← dateS_list, h]
  have e1 : d4 y = d4 y' := congrArg (fun l => l.take 4) h1
  have e2 : d2 m = d2 m' := congrArg (fun l => (l.drop 5).take 2) h1
  have e3 : d2 d = d2 d' := congrArg (fun l => l.drop 8) h1
  refine ⟨?_, ?_, ?_⟩
  · rw [← dv_four b.1, ← dv_four b'.1, e1]
  · rw [← dv_two b.2.1, ← dv_two b'.2.1, e2]
  · rw [← dv_two b.2.2, ← dv_two b'.2.2, e3]
theorem ReadIs.one {s : ByteArray} {v u : Int × Bool} (h : ReadIs s v) (k : ReadIs s u) : v = u := by
  rcases h with ⟨n, y, m, d, h1, h2, h3, rfl⟩ | ⟨h1, rfl⟩ <;> rcases k with ⟨n', y', m', d', k1, k2, k3, rfl⟩ | ⟨k1, rfl⟩
  · obtain ⟨rfl, rfl, rfl⟩ := dateS_inj (h3.symm.trans k3) (date_small h1 h2) (date_small k1 k2)
    have e : n = n' := by obtain ⟨_, _, _, _, _, rfl⟩ := h1; obtain ⟨_, _, _, _, _, rfl⟩ := k1; rfl
    rw [e]
  · exact absurd h3 (k1 n y m d h1 h2)
  · exact absurd k3 (h1 n' y' m' d' k1 k2)
  · rfl

theorem tenth {α : Type} (l : List α) (h : l.length = 10) : ∃ a b c d e f g i j k, l = [a, b, c, d, e, f, g, i, j, k] := by
  match l, h with
  | [a, b, c, d, e, f, g, i, j, k], _ => exact ⟨a, b, c, d, e, f, g, i, j, k, rfl⟩

set_option maxRecDepth 100000 in
set_option maxHeartbeats 2000000 in
theorem sread_ex (s : ByteArray) :
    ∃ v, ReadIs s v ∧ ∀ w, Calls Tryd.prog 51 #[.string s] w (SameIB v.1 v.2 w) := by
  by_cases hsz : s.size = 10
  · have h4 : 4 < s.size := by omega
    have h7 : 7 < s.size := by omega
    have z1 : ((s.size : Int) == 10) = true := by rw [beq_iff_eq]; omega
    have z2 : ((s.size : Int) != 10) = false := by rw [bne, z1]; rfl
    have hlo : 10 ≤ s.size := by omega
    have hhi : s.size ≤ 10 := by omega
    by_cases c4 : s[4].toNat = 45
    · have x1 : ((s[4].toNat : Int) == 45) = true := by rw [beq_iff_eq]; omega
      have x2 : ((s[4].toNat : Int) != 45) = false := by rw [bne, x1]; rfl
      by_cases c7 : s[7].toNat = 45
      · have y1 : ((s[7].toNat : Int) == 45) = true := by rw [beq_iff_eq]; omega
        have y2 : ((s[7].toNat : Int) != 45) = false := by rw [bne, y1]; rfl
        have HA := Lib.hid (fun w => sdigits_any (s.extract 0 4) w (by rw [ByteArray.size_extract]; omega))
        have HB := Lib.hid (fun w => sdigits_any (s.extract 5 7) w (by rw [ByteArray.size_extract]; omega))
        have HC := Lib.hid (fun w => sdigits_any (s.extract 8 s.size) w (by rw [ByteArray.size_extract]; omega))
        rw [piece_list] at HA HB HC
        rw [hsz] at HC
        obtain ⟨a, b, c, d, e, f, g, i, j, k, hl⟩ := tenth s.data.toList (by rw [size_list]; exact hsz)
        have he : e.toNat = 45 := by
          have : s[4] = e := by show s.data.toList[4]'_ = e; simp only [hl]; rfl
          rw [← this]; exact c4
        have hi : i.toNat = 45 := by
          have : s[7] = i := by show s.data.toList[7]'_ = i; simp only [hl]; rfl
          rw [← this]; exact c7
        rw [hl] at HA HB HC
        have HA := Lib.hid (show ∀ w, Calls Tryd.prog 53 #[.string (s.extract 0 4)] w (SameIB (digV [a, b, c, d]) (allD [a, b, c, d]) w) from HA.out)
        have HB := Lib.hid (show ∀ w, Calls Tryd.prog 53 #[.string (s.extract 5 7)] w (SameIB (digV [f, g]) (allD [f, g]) w) from HB.out)
        have HC := Lib.hid (show ∀ w, Calls Tryd.prog 53 #[.string (s.extract 8 10)] w (SameIB (digV [j, k]) (allD [j, k]) w) from HC.out)
        have hs : s = ⟨([a, b, c, d, e, f, g, i, j, k] : List UInt8).toArray⟩ := by
          refine WideShapes.bytes_inj ?_
          rw [hl]
        have hno : ∀ (n : Int) (y m d' : Nat), DateIs n y m d' → n ≤ 99999 → s = dateS y m d' → [a, b, c, d] = d4 y ∧ [f, g] = d2 m ∧ [j, k] = d2 d' := fun n y m d' _ _ h3 => by
          have h1 : [a, b, c, d, e, f, g, i, j, k] = dateL y m d' := by rw [← hl, h3]; rfl
          exact ⟨congrArg (fun l => l.take 4) h1, congrArg (fun l => (l.drop 5).take 2) h1, congrArg (fun l => l.drop 8) h1⟩
        have ae : ∀ t : List UInt8, allD t = t.all isD := fun _ => rfl
        have HSL := Lib.hid (And.intro hl hs)
        clear hl hs
        cases k1 : allD [a, b, c, d]
        · refine ⟨(0, false), .inr ⟨fun n y m d' h1 h2 h3 => ?_, rfl⟩, fun w => ?_⟩
          · have := (hno n y m d' h1 h2 h3).1
            rw [ae, this, all_four (date_small h1 h2).1] at k1; cases k1
          · rw [k1] at HA
            clear hno HSL k1 ae c4 c7 he hi
            cases k2 : allD [f, g] <;> cases k3 : allD [j, k]
            all_goals
              rw [k2] at HB
              rw [k3] at HC
              clear k2 k3
              go_enter Tryd.func51, Tryd.ntmps51
              go_wp2_with (first
                | (go_at_call 53; ((with_reducible refine (HA.out _).mono ?_); rintro e w1 ⟨rfl, rfl⟩))
                | (go_at_call 53; ((with_reducible refine (HB.out _).mono ?_); rintro e w1 ⟨rfl, rfl⟩))
                | (go_at_call 53; ((with_reducible refine (HC.out _).mono ?_); rintro e w1 ⟨rfl, rfl⟩)))
              go_ret2
              exact ⟨rfl, rfl⟩
        · cases k2 : allD [f, g]
          · refine ⟨(0, false), .inr ⟨fun n y m d' h1 h2 h3 => ?_, rfl⟩, fun w => ?_⟩
            · have := (hno n y m d' h1 h2 h3).2.1
              rw [ae, this, all_two (date_small h1 h2).2.1] at k2; cases k2
            · rw [k1] at HA
              rw [k2] at HB
              clear hno HSL k1 k2 ae c4 c7 he hi
              cases k3 : allD [j, k]
              all_goals
                rw [k3] at HC
                clear k3
                go_enter Tryd.func51, Tryd.ntmps51
                go_wp2_with (first
                  | (go_at_call 53; ((with_reducible refine (HA.out _).mono ?_); rintro e w1 ⟨rfl, rfl⟩))
                  | (go_at_call 53; ((with_reducible refine (HB.out _).mono ?_); rintro e w1 ⟨rfl, rfl⟩))
                  | (go_at_call 53; ((with_reducible refine (HC.out _).mono ?_); rintro e w1 ⟨rfl, rfl⟩)))
                go_ret2
                exact ⟨rfl, rfl⟩
          · cases k3 : allD [j, k]
            · refine ⟨(0, false), .inr ⟨fun n y m d' h1 h2 h3 => ?_, rfl⟩, fun w => ?_⟩
              · have := (hno n y m d' h1 h2 h3).2.2
                rw [ae, this, all_two (date_small h1 h2).2.2] at k3; cases k3
              · rw [k1] at HA
                rw [k2] at HB
                rw [k3] at HC
                clear hno HSL k1 k2 k3 ae c4 c7 he hi
                go_enter Tryd.func51, Tryd.ntmps51
                go_wp2_with (first
                  | (go_at_call 53; ((with_reducible refine (HA.out _).mono ?_); rintro e w1 ⟨rfl, rfl⟩))
                  | (go_at_call 53; ((with_reducible refine (HB.out _).mono ?_); rintro e w1 ⟨rfl, rfl⟩))
                  | (go_at_call 53; ((with_reducible refine (HC.out _).mono ?_); rintro e w1 ⟨rfl, rfl⟩)))
                go_ret2
                exact ⟨rfl, rfl⟩
            · have v1 : digV [a, b, c, d] = (dv 0 [a, b, c, d] : Int) := digV_yes k1
              have v2 : digV [f, g] = (dv 0 [f, g] : Int) := digV_yes k2
              have v3 : digV [j, k] = (dv 0 [j, k] : Int) := digV_yes k3
              obtain ⟨p1, p2⟩ := four_of_digits k1
              obtain ⟨p3, p4⟩ := two_of_digits k2
              obtain ⟨p5, p6⟩ := two_of_digits k3
              rw [k1, v1] at HA
              rw [k2, v2] at HB
              rw [k3, v3] at HC
              have hfind := fun w => sfind_any (dv 0 [a, b, c, d] : Int) (dv 0 [f, g] : Int) (dv 0 [j, k] : Int) w
              have hnum : ∀ (n : Int) (y m d' : Nat), DateIs n y m d' → n ≤ 99999 → s = dateS y m d' → y = dv 0 [a, b, c, d] ∧ m = dv 0 [f, g] ∧ d' = dv 0 [j, k] := fun n y m d' h1 h2 h3 => by
                obtain ⟨q1, q2, q3⟩ := hno n y m d' h1 h2 h3
                obtain ⟨r1, r2, r3⟩ := date_small h1 h2
                exact ⟨by rw [q1, dv_four r1], by rw [q2, dv_two r2], by rw [q3, dv_two r3]⟩
              have hsd : s = dateS (dv 0 [a, b, c, d]) (dv 0 [f, g]) (dv 0 [j, k]) := by
                refine WideShapes.bytes_inj ?_
                rw [HSL.out.1, dateS_list]
                unfold dateL
                rw [p1, p3, p5, show e = 45 from UInt8.toNat_inj.1 he, show i = 45 from UInt8.toNat_inj.1 hi]
                rfl
              obtain ⟨Y, hY⟩ : ∃ Y, Y = dv 0 [a, b, c, d] := ⟨_, rfl⟩
              obtain ⟨M, hM⟩ : ∃ M, M = dv 0 [f, g] := ⟨_, rfl⟩
              obtain ⟨D, hD⟩ : ∃ D, D = dv 0 [j, k] := ⟨_, rfl⟩
              rw [← hY] at HA hfind hnum hsd
              rw [← hM] at HB hfind hnum hsd
              rw [← hD] at HC hfind hnum hsd
              cases hok : dayOk (Y : Int) M D
              · refine ⟨(0, false), .inr ⟨fun n y m d' h1 h2 h3 => ?_, rfl⟩, fun w => ?_⟩
                · obtain ⟨rfl, rfl, rfl⟩ := hnum n y m d' h1 h2 h3
                  rw [(h1.num h2).2] at hok; cases hok
                · have e2 : (findV (Y : Int) M D).2 = false := by
                    unfold findV
                    unfold dayOk at hok
                    cases hf : findB (Y : Int) M D
                    · rfl
                    · rw [hf] at hok; simpa using hok
                  rw [e2] at hfind
                  obtain ⟨x, hx⟩ : ∃ x, x = (findV (Y : Int) M D).1 := ⟨_, rfl⟩
                  rw [← hx] at hfind
                  have HF := Lib.hid hfind
                  clear hno HSL k1 k2 k3 ae c4 c7 he hi hfind hnum hsd hok e2 hx hY hM hD v1 v2 v3 p1 p2 p3 p4 p5 p6
                  go_enter Tryd.func51, Tryd.ntmps51
                  go_wp2_with (first
                    | (go_at_call 53; ((with_reducible refine (HA.out _).mono ?_); rintro e w1 ⟨rfl, rfl⟩))
                    | (go_at_call 53; ((with_reducible refine (HB.out _).mono ?_); rintro e w1 ⟨rfl, rfl⟩))
                    | (go_at_call 53; ((with_reducible refine (HC.out _).mono ?_); rintro e w1 ⟨rfl, rfl⟩))
                    | (go_at_call 45; refine (HF.out _).mono ?_; rintro e w1 ⟨rfl, rfl⟩))
                  go_ret2
                  exact ⟨rfl, rfl⟩
              · have hok2 := hok
                unfold dayOk at hok2
                rw [Bool.and_eq_true] at hok2
                refine ⟨(dnumOf Y M D, true), .inl ⟨_, Y, M, D, find_date hok2.1, by simpa using hok2.2, hsd, rfl⟩, fun w => ?_⟩
                have e2 : findV (Y : Int) M D = (dnumOf Y M D, true) := by
                  unfold findV
                  rw [hok2.1, hok2.2]; rfl
                rw [e2] at hfind
                obtain ⟨x, hx⟩ : ∃ x, x = dnumOf Y M D := ⟨_, rfl⟩
                rw [← hx] at hfind ⊢
                have HF := Lib.hid hfind
                clear hno HSL k1 k2 k3 ae c4 c7 he hi hfind hnum hsd hok hok2 e2 hx hY hM hD v1 v2 v3 p1 p2 p3 p4 p5 p6
                go_enter Tryd.func51, Tryd.ntmps51
                go_wp2_with (first
                  | (go_at_call 53; ((with_reducible refine (HA.out _).mono ?_); rintro e w1 ⟨rfl, rfl⟩))
                  | (go_at_call 53; ((with_reducible refine (HB.out _).mono ?_); rintro e w1 ⟨rfl, rfl⟩))
                  | (go_at_call 53; ((with_reducible refine (HC.out _).mono ?_); rintro e w1 ⟨rfl, rfl⟩))
                  | (go_at_call 45; refine (HF.out _).mono ?_; rintro e w1 ⟨rfl, rfl⟩))
                go_ret2
                exact ⟨rfl, rfl⟩
      · refine ⟨(0, false), .inr ⟨fun n y m d' h1 h2 h3 => ?_, rfl⟩, fun w => ?_⟩
        · subst h3; exact c7 rfl
        · have y1 : ((s[7].toNat : Int) == 45) = false := by rw [beq_eq_false_iff_ne]; omega
          have y2 : ((s[7].toNat : Int) != 45) = true := by rw [bne, y1]; rfl
          clear c4 c7 hsz
          go_enter Tryd.func51, Tryd.ntmps51
          go_wp2_with (fail)
          go_ret2
          exact ⟨rfl, rfl⟩
    · refine ⟨(0, false), .inr ⟨fun n y m d' h1 h2 h3 => ?_, rfl⟩, fun w => ?_⟩
      · subst h3; exact c4 rfl
      · have x1 : ((s[4].toNat : Int) == 45) = false := by rw [beq_eq_false_iff_ne]; omega
        have x2 : ((s[4].toNat : Int) != 45) = true := by rw [bne, x1]; rfl
        clear c4 hsz
        go_enter Tryd.func51, Tryd.ntmps51
        go_wp2_with (fail)
        go_ret2
        exact ⟨rfl, rfl⟩
  · refine ⟨(0, false), .inr ⟨fun n y m d' h1 h2 h3 => ?_, rfl⟩, fun w => ?_⟩
    · subst h3; exact hsz rfl
    · have z1 : ((s.size : Int) == 10) = false := by rw [beq_eq_false_iff_ne]; omega
      have z2 : ((s.size : Int) != 10) = true := by rw [bne, z1]; rfl
      clear hsz
      go_enter Tryd.func51, Tryd.ntmps51
      go_wp2_with (fail)
      go_ret2
      exact ⟨rfl, rfl⟩
end Go.Proofs.YtjjkbbcpihaphaaDoor
