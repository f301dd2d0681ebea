/- The least loudness for a distance: the model's. -/
import Derived.Test.YtbfhnfoaipaljaaDoorPowI
namespace Go.Proofs.YtbfhnfoaipaljaaDoor
open Go.ChangeShapes Go.WideShapes Go.ChangeAt Go.RowKit Pm

theorem spow_no (d v : Int) (w : World) (h : powOk d v = false) :
    Calls Tryd.prog 38 #[.int .i64 d, .int .i64 v] w (RetF 0 2 w) := by
  have HV := Lib.hid (fun w => swind_any v w)
  cases h1 : inB 0 300000 [d]
  · have HQ := Lib.hid (fun w => h1 ▸ in_any d 0 300000 w)
    clear h h1
    go_enter Tryd.func38, Tryd.ntmps38
    go_wp2_with (go_at_call 65; (refine (HQ.out _).mono ?_); rintro e w1 ⟨rfl, rfl⟩)
    go_ret2
    exact ⟨rfl, Below.refl _ _⟩
  · have HQ := Lib.hid (fun w => h1 ▸ in_any d 0 300000 w)
    have h2 : inB (-3) 3 [v] = false := by rw [powOk, h1, Bool.true_and] at h; exact h
    rw [h2] at HV
    clear h h1 h2
    go_enter Tryd.func38, Tryd.ntmps38
    go_wp2_with (first
      | (go_at_call 65; (refine (HQ.out _).mono ?_); rintro e w1 ⟨rfl, rfl⟩)
      | (go_at_call 66; (refine (HV.out _).mono ?_); rintro e w2 ⟨rfl, rfl⟩))
    go_ret2
    exact ⟨rfl, Below.refl _ _⟩
set_option maxRecDepth 100000 in
set_option maxHeartbeats 1000000 in
theorem spow_yes (d v a c : Int) (w : World) (h : powOk d v = true) (hm : LeastIs (heardB d v) 60 140 a c) :
    Calls Tryd.prog 38 #[.int .i64 d, .int .i64 v] w (RetF a c w) := by
  obtain ⟨_, v0, v1⟩ := powOk_yes h
  have h12 : inB 0 300000 [d] = true ∧ inB (-3) 3 [v] = true := by simpa [powOk] using h
  have HV := Lib.hid (fun w => h12.2 ▸ swind_any v w)
  have HQ := Lib.hid (fun w => h12.1 ▸ in_any d 0 300000 w)
  obtain ⟨r, ⟨r0, r1, r2, r3⟩, hr⟩ := hm
  have R2 := Lib.hid r2
  have R3 := Lib.hid r3
  have HRR := Lib.hid hr
  have HSR := Lib.hid (fun (w' : World) t (t0 : 60 ≤ t) (t1 : t ≤ 140) => srange_any t v w' t0 t1 v0 v1)
  clear h h12 r2 r3 hr v0 v1
  go_enter Tryd.func38, Tryd.ntmps38
  go_wp2_with (first
    | (go_at_call 65; (refine (HQ.out _).mono ?_); rintro e w1 ⟨rfl, rfl⟩)
    | (go_at_call 66; (refine (HV.out _).mono ?_); rintro e w2 ⟨rfl, rfl⟩))
  go_loopw [6] (fun i wr => ∃ n : Nat, 60 + (n : Int) ≤ r ∧ i = .int .i64 (60 + n) ∧ Below w.heap.size w wr) (fun i _ => 82 - ((intOf i).toNat - 60))
  case atStart => exact ⟨0, by omega, rfl, Below.refl _ _⟩
  case round =>
    obtain ⟨n, hn, rfl, hbel⟩ := hrel
    have HB := Lib.hid hbel
    clear hbel
    by_cases hlt : 60 + (n : Int) ≤ 140
    · have HC := fun w' => HSR.out w' (60 + n) (by omega) hlt
      by_cases hh : 60 + (n : Int) = r
      · have hd : d ≤ sndV (60 + n) v := by have := R3.out (60 + n) (by omega) hlt; simpa [heardB] using this
        obtain ⟨rfl, rfl⟩ : a = 60 + (n : Int) ∧ c = 0 := by rcases HRR.out with ⟨_, x, y⟩ | ⟨x, _, _⟩ <;> omega
        generalize sndV (60 + n) v = z at *
        have HC := Lib.hid HC
        clear hh R2 R3 HRR r0 r1 hn
        go_wp2_with (go_at_call 67; (with_reducible refine (HC.out _).mono ?_); rintro e w1 ⟨rfl, hb⟩; have AC := Lib.hid (Below.next HB.out hb); clear hb)
        go_ret2
        exact ⟨rfl, AC.out⟩
      · have hd : ¬ d ≤ sndV (60 + n) v := by have := R2.out (60 + n) (by omega) (by omega); simpa [heardB] using this
        have hd2 : sndV (60 + n) v < d := by omega
        generalize sndV (60 + n) v = z at *
        have HC := Lib.hid HC
        have hn2 : 60 + (n : Int) + 1 ≤ r := by omega
        clear R2 R3 HRR hd
        go_wp2_with (go_at_call 67; (with_reducible refine (HC.out _).mono ?_); rintro e w1 ⟨rfl, hb⟩; have AC := Lib.hid (Below.next HB.out hb); clear hb)
        go_roundw
        case rel => exact ⟨n + 1, by omega, by go_num, AC.out⟩
        case measure => simp [intOf]; omega
    · obtain ⟨rfl, rfl⟩ : a = 0 ∧ c = 3 := by rcases HRR.out with ⟨x, _, _⟩ | ⟨_, x, y⟩ <;> omega
      have hgt : 140 < 60 + (n : Int) := by omega
      clear R2 R3 HRR
      go_wp2
      go_ret2
      exact ⟨rfl, HB.out⟩
theorem spowerfor_any (d v a c : Int) (w : World) (h : PowIs d v a c) :
    Calls Tryd.prog 38 #[.int .i64 d, .int .i64 v] w (RetF a c w) := by
  rcases h with ⟨h, rfl, rfl⟩ | ⟨h, hm⟩
  · exact spow_no d v w h
  · exact spow_yes d v a c w h hm

end Go.Proofs.YtbfhnfoaipaljaaDoor
