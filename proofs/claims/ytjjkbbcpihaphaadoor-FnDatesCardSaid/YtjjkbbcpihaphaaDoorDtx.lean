/- The texts of dates and of minutes, of the program and of the model. -/
import Derived.Test.YtjjkbbcpihaphaaDoorPad
import Derived.Test.YtjjkbbcpihaphaaDoorDec
import Derived.Test.YtjjkbbcpihaphaaDoorCalK
import Derived.Test.YtjjkbbcpihaphaaDoorCalT
namespace Go.Proofs.YtjjkbbcpihaphaaDoor
open Go.ChangeShapes Go.WideShapes Go.ChangeAt Go.RowKit Pm

/-- The text of a day, of minutes of a day. -/
def dateS (y m d : Nat) : ByteArray := ⟨(dateL y m d).toArray⟩
def clockS (t : Nat) : ByteArray := ⟨(clockL t).toArray⟩
theorem date_sum (A B C : ByteArray) (y m d : Nat) (hA : A = ⟨(d4 y).toArray⟩) (hB : B = ⟨(d2 m).toArray⟩) (hC : C = ⟨(d2 d).toArray⟩) : A ++ ⟨#[45]⟩ ++ B ++ ⟨#[45]⟩ ++ C = dateS y m d := by
  refine WideShapes.bytes_inj ?_
  rw [hA, hB, hC]
  rfl
theorem clock_sum (A B : ByteArray) (t : Nat) (hA : A = ⟨(d2 (t / 60)).toArray⟩) (hB : B = ⟨(d2 (t % 60)).toArray⟩) : A ++ ⟨#[58]⟩ ++ B = clockS t := by
  refine WideShapes.bytes_inj ?_
  rw [hA, hB]
  rfl

theorem datetext_yes (n : Int) (y m d : Nat) (w : World) (hM : MonthsAt w) (hP : PowAt w) (h : DateIs n y m d) (hn : n ≤ 99999) :
    Calls Tryd.prog 16 #[.int .i64 n] w fun e w' => e = .returned (.string (dateS y m d)) ∧ Below w.heap.size w w' := by
  have hy := h.year hn
  have HD := Lib.hid (dateof_yes n y m d w hM h hn)
  obtain ⟨y0, m0, m1, d0, d1, hnn⟩ := h
  have hlb := monthLen_bd y m
  have HA := fun w hp => padded_any y 4 w hp (by omega) (by omega) (by omega)
  have HB := fun w hp => padded_any m 2 w hp (by omega) (by omega) (by omega)
  have HC := fun w hp => padded_any d 2 w hp (by omega) (by omega) (by omega)
  rw [pad_four (by omega) (by omega)] at HA
  rw [pad_two (by omega)] at HB HC
  obtain ⟨A, hA⟩ : ∃ A : ByteArray, A = ⟨(d4 y).toArray⟩ := ⟨_, rfl⟩
  obtain ⟨B, hB⟩ : ∃ B : ByteArray, B = ⟨(d2 m).toArray⟩ := ⟨_, rfl⟩
  obtain ⟨C, hC⟩ : ∃ C : ByteArray, C = ⟨(d2 d).toArray⟩ := ⟨_, rfl⟩
  have HV := Lib.hid (date_sum A B C y m d hA hB hC)
  have sA : A.size = 4 := by rw [hA]; rfl
  have sB : B.size = 2 := by rw [hB]; rfl
  have sC : C.size = 2 := by rw [hC]; rfl
  have s1 : (⟨#[45]⟩ : ByteArray).size = 1 := rfl
  have k1 := fun w => run_string_add_sum (P := Tryd.prog) (w := w) A ⟨#[45]⟩ (by omega)
  have k2 := fun w => run_string_add_sum (P := Tryd.prog) (w := w) (A ++ ⟨#[45]⟩) B (by simp only [ByteArray.size_append]; omega)
  have k3 := fun w => run_string_add_sum (P := Tryd.prog) (w := w) (A ++ ⟨#[45]⟩ ++ B) ⟨#[45]⟩ (by simp only [ByteArray.size_append]; omega)
  have k4 := fun w => run_string_add_sum (P := Tryd.prog) (w := w) (A ++ ⟨#[45]⟩ ++ B ++ ⟨#[45]⟩) C (by simp only [ByteArray.size_append]; omega)
  rw [← hA] at HA
  rw [← hB] at HB
  rw [← hC] at HC
  have HA := Lib.hid (show ∀ w, PowAt w → Calls Tryd.prog 40 #[.int .i64 y, .int .i64 4] w fun e w' => e = .returned (.string A) ∧ Below w.heap.size w w' from HA)
  have HB := Lib.hid (show ∀ w, PowAt w → Calls Tryd.prog 40 #[.int .i64 m, .int .i64 2] w fun e w' => e = .returned (.string B) ∧ Below w.heap.size w w' from HB)
  have HC := Lib.hid (show ∀ w, PowAt w → Calls Tryd.prog 40 #[.int .i64 d, .int .i64 2] w fun e w' => e = .returned (.string C) ∧ Below w.heap.size w w' from HC)
  have HP := Lib.hid hP
  clear hA hB hC sA sB sC s1 hM hP hnn hlb hy
  go_enter Tryd.func16, Tryd.ntmps16
  go_wp2_with (first
    | (go_at_call 13; refine HD.out.mono ?_; rintro e w1 ⟨rfl, hb⟩; have ac := Lib.hid hb; clear hb)
    | (go_at_call 40; ((with_reducible refine (HA.out _ (HP.out.below ac.out)).mono ?_); rintro e w2 ⟨rfl, hb⟩; have ac2 := Lib.hid (Below.next ac.out hb); clear hb))
    | (go_at_call 40; ((with_reducible refine (HB.out _ (HP.out.below ac2.out)).mono ?_); rintro e w3 ⟨rfl, hb⟩; have ac3 := Lib.hid (Below.next ac2.out hb); clear hb))
    | (go_at_call 40; ((with_reducible refine (HC.out _ (HP.out.below ac3.out)).mono ?_); rintro e w4 ⟨rfl, hb⟩; have ac4 := Lib.hid (Below.next ac3.out hb); clear hb)))
  go_ret
  exact ⟨retS HV.out, ac4.out⟩
theorem datetext_no (n : Int) (w : World) (h : inB 0 99999 [n] = false) :
    Calls Tryd.prog 16 #[.int .i64 n] w fun e w' => e = .returned (.string ⟨#[]⟩) ∧ Below w.heap.size w w' := by
  have HD := Lib.hid (dateof_no n w h)
  clear h
  go_enter Tryd.func16, Tryd.ntmps16
  go_wp2_with (first
    | (go_at_call 13; refine HD.out.mono ?_; rintro e w1 ⟨rfl, hb⟩))
  go_ret
  exact ⟨rfl, hb⟩

theorem clocktext_yes (t : Nat) (w : World) (hP : PowAt w) (ht : t ≤ 1439) :
    Calls Tryd.prog 22 #[.int .i64 t] w fun e w' => e = .returned (.string (clockS t)) ∧ Below w.heap.size w w' := by
  have hin : inB 0 1439 [(t : Int)] = true := by simp [inB]; omega
  have HI := Lib.hid (fun w sv hs => hin ▸ within_any 0 1439 sv [(t : Int)] w hs)
  have HA := fun w hp => padded_any ((t / 60 : Nat) : Int) 2 w hp (by omega) (by omega) (by omega)
  have HB := fun w hp => padded_any ((t % 60 : Nat) : Int) 2 w hp (by omega) (by omega) (by omega)
  rw [pad_two (by omega)] at HA HB
  obtain ⟨A, hA⟩ : ∃ A : ByteArray, A = ⟨(d2 (t / 60)).toArray⟩ := ⟨_, rfl⟩
  obtain ⟨B, hB⟩ : ∃ B : ByteArray, B = ⟨(d2 (t % 60)).toArray⟩ := ⟨_, rfl⟩
  have HV := Lib.hid (clock_sum A B t hA hB)
  have sA : A.size = 2 := by rw [hA]; rfl
  have sB : B.size = 2 := by rw [hB]; rfl
  have s1 : (⟨#[58]⟩ : ByteArray).size = 1 := rfl
  have k1 := fun w => run_string_add_sum (P := Tryd.prog) (w := w) A ⟨#[58]⟩ (by omega)
  have k2 := fun w => run_string_add_sum (P := Tryd.prog) (w := w) (A ++ ⟨#[58]⟩) B (by simp only [ByteArray.size_append]; omega)
  rw [← hA] at HA
  rw [← hB] at HB
  have HA := Lib.hid (show ∀ w, PowAt w → Calls Tryd.prog 40 #[.int .i64 ((t : Int) / 60), .int .i64 2] w fun e w' => e = .returned (.string A) ∧ Below w.heap.size w w' from by rw [show (t : Int) / 60 = ((t / 60 : Nat) : Int) by omega]; exact HA)
  have HB := Lib.hid (show ∀ w, PowAt w → Calls Tryd.prog 40 #[.int .i64 ((t : Int) % 60), .int .i64 2] w fun e w' => e = .returned (.string B) ∧ Below w.heap.size w w' from by rw [show (t : Int) % 60 = ((t % 60 : Nat) : Int) by omega]; exact HB)
  have HP := Lib.hid hP
  have H1 := ints_one w .i64 (t : Int) 2
  have hti : (t : Int) ≤ 1439 := by omega
  clear hA hB sA sB s1 hP hin
  go_enter Tryd.func22, Tryd.ntmps22
  go_wp2_with (first
    | (go_at_call 38; refine (HI.out _ _ H1).mono ?_; rintro e w1 ⟨rfl, hw1⟩; have ac := Lib.hid (show Below w.heap.size w w1 by rw [← hw1]; go_grown); clear hw1)
    | (go_at_call 40; ((with_reducible refine (HA.out _ (HP.out.below ac.out)).mono ?_); rintro e w2 ⟨rfl, hb⟩; have ac2 := Lib.hid (Below.next ac.out hb); clear hb))
    | (go_at_call 40; ((with_reducible refine (HB.out _ (HP.out.below ac2.out)).mono ?_); rintro e w3 ⟨rfl, hb⟩; have ac3 := Lib.hid (Below.next ac2.out hb); clear hb)))
  go_ret
  exact ⟨retS HV.out, ac3.out⟩
theorem clocktext_no (t : Int) (w : World) (h : inB 0 1439 [t] = false) :
    Calls Tryd.prog 22 #[.int .i64 t] w fun e w' => e = .returned (.string ⟨#[]⟩) ∧ Below w.heap.size w w' := by
  have HI := Lib.hid (fun w sv hs => h ▸ within_any 0 1439 sv [t] w hs)
  have H1 := ints_one w .i64 t 2
  clear h
  go_enter Tryd.func22, Tryd.ntmps22
  go_wp2_with (first
    | (go_at_call 38; refine (HI.out _ _ H1).mono ?_; rintro e w1 ⟨rfl, rfl⟩))
  go_ret
  exact ⟨rfl, by go_grown⟩

/-! ### The model -/
theorem stwo_any (u : Nat) (w : World) (h : u < 100) :
    Calls Tryd.prog 52 #[.int .i64 u] w fun e w' => e = .returned (.string ⟨(d2 u).toArray⟩) ∧ Below w.heap.size w w' := by
  have HD := fun w => sdec_any (u : Int) w (by omega) (by omega)
  have hl := pad_size (u : Int) (by omega) (by omega)
  have hui : (u : Int) < 100 := by omega
  by_cases c : u < 10
  · have hv := two_low c
    obtain ⟨s, hs⟩ : ∃ s : ByteArray, s = ⟨(Lib.itoa u).toArray⟩ := ⟨_, rfl⟩
    rw [← hs] at HD
    have hsz : s.size = (Lib.itoa u).length := by rw [hs]; simp [ByteArray.size]
    have s1 : (⟨#[48]⟩ : ByteArray).size = 1 := rfl
    have k1 := fun w => run_string_add_sum (P := Tryd.prog) (w := w) ⟨#[48]⟩ s (by omega)
    have HV := Lib.hid (show (⟨#[48]⟩ : ByteArray) ++ s = ⟨(d2 u).toArray⟩ by
      refine WideShapes.bytes_inj ?_
      rw [← hv, hs]; rfl)
    have HD := Lib.hid HD
    have hci : (u : Int) < 10 := by omega
    clear hs hsz s1 hl hv c
    go_enter Tryd.func52, Tryd.ntmps52
    go_wp2_with (first
      | (go_at_call 64; refine (HD.out _).mono ?_; rintro e w1 ⟨rfl, hb⟩))
    go_ret
    exact ⟨retS HV.out, hb⟩
  · rw [itoa_two (by omega) h] at HD
    have HD := Lib.hid HD
    have hci : 10 ≤ (u : Int) := by omega
    clear hl c
    go_enter Tryd.func52, Tryd.ntmps52
    go_wp2_with (first
      | (go_at_call 64; refine (HD.out _).mono ?_; rintro e w1 ⟨rfl, hb⟩))
    go_ret
    exact ⟨rfl, hb⟩

theorem stext3_any (n : Int) (y m d : Nat) (w : World) (h : DateIs n y m d) (hn : n ≤ 99999) :
    Calls Tryd.prog 50 #[.int .i64 n] w fun e w' => e = .returned (.string (dateS y m d)) ∧ Below w.heap.size w w' := by
  have hy := h.year hn
  have HT := Lib.hid (fun w => sdate_any n y m d w h hn)
  obtain ⟨y0, m0, m1, d0, d1, hnn⟩ := h
  have hlb := monthLen_bd y m
  have HA := fun w => sdec_any (y : Int) w (by omega) (by omega)
  rw [itoa_four (by omega) (by omega)] at HA
  have HB := fun w => stwo_any m w (by omega)
  have HC := fun w => stwo_any d w (by omega)
  obtain ⟨A, hA⟩ : ∃ A : ByteArray, A = ⟨(d4 y).toArray⟩ := ⟨_, rfl⟩
  obtain ⟨B, hB⟩ : ∃ B : ByteArray, B = ⟨(d2 m).toArray⟩ := ⟨_, rfl⟩
  obtain ⟨C, hC⟩ : ∃ C : ByteArray, C = ⟨(d2 d).toArray⟩ := ⟨_, rfl⟩
  have HV := Lib.hid (date_sum A B C y m d hA hB hC)
  have sA : A.size = 4 := by rw [hA]; rfl
  have sB : B.size = 2 := by rw [hB]; rfl
  have sC : C.size = 2 := by rw [hC]; rfl
  have s1 : (⟨#[45]⟩ : ByteArray).size = 1 := rfl
  have k1 := fun w => run_string_add_sum (P := Tryd.prog) (w := w) A ⟨#[45]⟩ (by omega)
  have k2 := fun w => run_string_add_sum (P := Tryd.prog) (w := w) (A ++ ⟨#[45]⟩) B (by simp only [ByteArray.size_append]; omega)
  have k3 := fun w => run_string_add_sum (P := Tryd.prog) (w := w) (A ++ ⟨#[45]⟩ ++ B) ⟨#[45]⟩ (by simp only [ByteArray.size_append]; omega)
  have k4 := fun w => run_string_add_sum (P := Tryd.prog) (w := w) (A ++ ⟨#[45]⟩ ++ B ++ ⟨#[45]⟩) C (by simp only [ByteArray.size_append]; omega)
  rw [← hA] at HA
  rw [← hB] at HB
  rw [← hC] at HC
  have HA := Lib.hid HA
  have HB := Lib.hid HB
  have HC := Lib.hid HC
  clear hA hB hC sA sB sC s1 hnn hlb hy
  go_enter Tryd.func50, Tryd.ntmps50
  go_wp2_with (first
    | (go_at_call 44; refine (HT.out _).mono ?_; rintro e w1 ⟨rfl, rfl⟩)
    | (go_at_call 64; refine (HA.out _).mono ?_; rintro e w2 ⟨rfl, hb⟩; have ac2 := Lib.hid hb; clear hb)
    | (go_at_call 52; ((with_reducible refine (HB.out _).mono ?_); rintro e w3 ⟨rfl, hb⟩; have ac3 := Lib.hid (Below.next ac2.out hb); clear hb))
    | (go_at_call 52; ((with_reducible refine (HC.out _).mono ?_); rintro e w4 ⟨rfl, hb⟩; have ac4 := Lib.hid (Below.next ac3.out hb); clear hb)))
  go_ret
  exact ⟨retS HV.out, ac4.out⟩
theorem sdatetext_yes (n : Int) (y m d : Nat) (w : World) (h : DateIs n y m d) (hn : n ≤ 99999) :
    Calls Tryd.prog 29 #[.int .i64 n] w fun e w' => e = .returned (.string (dateS y m d)) ∧ Below w.heap.size w w' := by
  have hin : inB 0 99999 [n] = true := by have := h.nn; simp [inB]; omega
  have HI := Lib.hid (fun w => hin ▸ sday_any n w)
  have HT := fun w => stext3_any n y m d w h hn
  obtain ⟨s, hs⟩ : ∃ s, s = dateS y m d := ⟨_, rfl⟩
  rw [← hs] at HT ⊢
  have HT := Lib.hid HT
  clear hin h hs
  go_enter Tryd.func29, Tryd.ntmps29
  go_wp2_with (first
    | (go_at_call 43; refine (HI.out _).mono ?_; rintro e w1 ⟨rfl, rfl⟩)
    | (go_at_call 50; refine (HT.out _).mono ?_; rintro e w1 ⟨rfl, hb⟩))
  go_ret
  exact ⟨rfl, hb⟩
theorem sdatetext_no (n : Int) (w : World) (h : inB 0 99999 [n] = false) :
    Calls Tryd.prog 29 #[.int .i64 n] w fun e w' => e = .returned (.string ⟨#[]⟩) ∧ Below w.heap.size w w' := by
  have HI := Lib.hid (fun w => h ▸ sday_any n w)
  clear h
  go_enter Tryd.func29, Tryd.ntmps29
  go_wp2_with (first
    | (go_at_call 43; refine (HI.out _).mono ?_; rintro e w1 ⟨rfl, rfl⟩))
  go_ret
  exact ⟨rfl, Below.refl _ _⟩

theorem sclocktext_yes (t : Nat) (w : World) (ht : t ≤ 1439) :
    Calls Tryd.prog 31 #[.int .i64 t] w fun e w' => e = .returned (.string (clockS t)) ∧ Below w.heap.size w w' := by
  have hin : inB 0 1439 [(t : Int)] = true := by simp [inB]; omega
  have HI := Lib.hid (fun w => hin ▸ in_any (t : Int) 0 1439 w)
  have HA := fun w => stwo_any (t / 60) w (by omega)
  have HB := fun w => stwo_any (t % 60) w (by omega)
  obtain ⟨A, hA⟩ : ∃ A : ByteArray, A = ⟨(d2 (t / 60)).toArray⟩ := ⟨_, rfl⟩
  obtain ⟨B, hB⟩ : ∃ B : ByteArray, B = ⟨(d2 (t % 60)).toArray⟩ := ⟨_, rfl⟩
  have HV := Lib.hid (clock_sum A B t hA hB)
  have sA : A.size = 2 := by rw [hA]; rfl
  have sB : B.size = 2 := by rw [hB]; rfl
  have s1 : (⟨#[58]⟩ : ByteArray).size = 1 := rfl
  have k1 := fun w => run_string_add_sum (P := Tryd.prog) (w := w) A ⟨#[58]⟩ (by omega)
  have k2 := fun w => run_string_add_sum (P := Tryd.prog) (w := w) (A ++ ⟨#[58]⟩) B (by simp only [ByteArray.size_append]; omega)
  rw [← hA] at HA
  rw [← hB] at HB
  have HA := Lib.hid (show ∀ w, Calls Tryd.prog 52 #[.int .i64 ((t : Int) / 60)] w fun e w' => e = .returned (.string A) ∧ Below w.heap.size w w' from by rw [show (t : Int) / 60 = ((t / 60 : Nat) : Int) by omega]; exact HA)
  have HB := Lib.hid (show ∀ w, Calls Tryd.prog 52 #[.int .i64 ((t : Int) % 60)] w fun e w' => e = .returned (.string B) ∧ Below w.heap.size w w' from by rw [show (t : Int) % 60 = ((t % 60 : Nat) : Int) by omega]; exact HB)
  have hti : (t : Int) ≤ 1439 := by omega
  clear hA hB sA sB s1 hin
  go_enter Tryd.func31, Tryd.ntmps31
  go_wp2_with (first
    | (go_at_call 47; refine (HI.out _).mono ?_; rintro e w1 ⟨rfl, rfl⟩)
    | (go_at_call 52; ((with_reducible refine (HA.out _).mono ?_); rintro e w2 ⟨rfl, hb⟩; have ac2 := Lib.hid hb; clear hb))
    | (go_at_call 52; ((with_reducible refine (HB.out _).mono ?_); rintro e w3 ⟨rfl, hb⟩; have ac3 := Lib.hid (Below.next ac2.out hb); clear hb)))
  go_ret
  exact ⟨retS HV.out, ac3.out⟩
theorem sclocktext_no (t : Int) (w : World) (h : inB 0 1439 [t] = false) :
    Calls Tryd.prog 31 #[.int .i64 t] w fun e w' => e = .returned (.string ⟨#[]⟩) ∧ Below w.heap.size w w' := by
  have HI := Lib.hid (fun w => h ▸ in_any t 0 1439 w)
  clear h
  go_enter Tryd.func31, Tryd.ntmps31
  go_wp2_with (first
    | (go_at_call 47; refine (HI.out _).mono ?_; rintro e w1 ⟨rfl, rfl⟩))
  go_ret
  exact ⟨rfl, Below.refl _ _⟩
end Go.Proofs.YtjjkbbcpihaphaaDoor
