/- The program's ranges. -/
import Derived.Test.YtagebpmciimcgaaRngF
import Derived.Test.YtagebpmciimcgaaLogL
import Derived.Test.YtagebpmciimcgaaRoot
namespace Go.Proofs.Ytagebpmciimcgaa
open Go.ChangeShapes Go.WideShapes Go.ChangeAt Go.RowKit Pm

/-- Two numbers are returned. -/
def RetP (a c : Int) (w : World) (e : Ending) (w' : World) : Prop := e = .returned (.tuple #[.int .i64 a, .int .i64 c]) ∧ Below w.heap.size w w'
theorem fall (w : World) (n : Nat) : Below w.heap.size w (w.drewN n) := ⟨rfl, rfl, rfl, Nat.le_refl _, fun _ _ => rfl⟩

theorem isint_any (d : Int) (w : World) :
    Calls Try.prog 39 #[.int .i64 d] w fun e w' => e = .returned (.bool (inB 1 100000000 [d])) ∧ Below w.heap.size w w' := by
  have H1 := ints_one w .i64 d 2
  go_enter Try.func39, Try.ntmps39
  go_wp2_with (go_at_call 44; refine (within_any _ _ _ _ _ H1).mono ?_; rintro e w' ⟨rfl, rfl⟩)
  go_ret
  exact ⟨rfl, by go_grown⟩

theorem isvis_any (d : Int) (w : World) :
    Calls Try.prog 40 #[.int .i64 d] w fun e w' => e = .returned (.bool (inB 1 100000 [d])) ∧ Below w.heap.size w w' := by
  have H1 := ints_one w .i64 d 2
  go_enter Try.func40, Try.ntmps40
  go_wp2_with (go_at_call 44; refine (within_any _ _ _ _ _ H1).mono ?_; rintro e w' ⟨rfl, rfl⟩)
  go_ret
  exact ⟨rfl, by go_grown⟩

theorem isdis_any (d : Int) (w : World) :
    Calls Try.prog 36 #[.int .i64 d] w fun e w' => e = .returned (.bool (inB 1 100000 [d])) ∧ Below w.heap.size w w' := by
  have H1 := ints_one w .i64 d 2
  go_enter Try.func36, Try.ntmps36
  go_wp2_with (go_at_call 44; refine (within_any _ _ _ _ _ H1).mono ?_; rintro e w' ⟨rfl, rfl⟩)
  go_ret
  exact ⟨rfl, by go_grown⟩

theorem arehts_any (sv : Value) (zs : List Int) (w : World) (hs : IntsAre .i64 w sv zs) :
    Calls Try.prog 34 #[sv] w fun e w' => e = .returned (.bool (inB 0 3000 zs)) ∧ w = w' := by
  have HI := Lib.hid (within_any 0 3000 sv zs w hs)
  clear hs
  go_enter Try.func34, Try.ntmps34
  go_wp2_with (go_at_call 44; refine HI.out.mono ?_; rintro e w' ⟨rfl, rfl⟩)
  go_ret
  exact ⟨rfl, rfl⟩

theorem horof_any (h : Int) (w : World) (h0 : 0 ≤ h) (h1 : h ≤ 3001) :
    Calls Try.prog 35 #[.int .i64 h] w fun e w' => e = .returned (.int .i64 (horV h)) ∧ w = w' := by
  have HR := Lib.hid (show Calls Try.prog 59 #[.int .i64 (1483790 * h)] w fun e w' => e = .returned (.int .i64 (horV h)) ∧ w = w' from by
    refine (rootof_any _ w (by omega)).mono ?_
    rintro e w1 ⟨r, hr, rfl, rfl⟩
    exact ⟨ret_i (hr.one (horV_root h0 h1)), rfl⟩)
  generalize horV h = v at *
  go_enter Try.func35, Try.ntmps35
  go_wp2_with (go_at_call 59; refine HR.out.mono ?_; rintro e w' ⟨rfl, rfl⟩)
  go_ret
  exact ⟨rfl, rfl⟩

theorem tenlog_any (n a c : Int) (w : World) (h : LogIs n a c) :
    Calls Try.prog 19 #[.int .i64 n] w (RetP a c w) := by
  rcases h with ⟨h, rfl, rfl⟩ | ⟨h, rfl, rfl⟩
  · have HI := Lib.hid (fun w sv hs => h ▸ within_any 1 1000000000000 sv [n] w hs)
    have H1 := ints_one w .i64 n 2
    clear h
    go_enter Try.func19, Try.ntmps19
    go_wp2_with (go_at_call 44; refine (HI.out _ _ H1).mono ?_; rintro e w' ⟨rfl, rfl⟩)
    go_ret2
    exact ⟨rfl, by go_grown⟩
  · have hb := inB_yes h
    have HI := Lib.hid (fun w sv hs => h ▸ within_any 1 1000000000000 sv [n] w hs)
    have HL := Lib.hid (fun w => logof_any n w hb.1 hb.2)
    have H1 := ints_one w .i64 n 2
    generalize logV n = v at *
    clear h
    go_enter Try.func19, Try.ntmps19
    go_wp2_with (first
      | (go_at_call 44; refine (HI.out _ _ H1).mono ?_; rintro e w' ⟨rfl, rfl⟩)
      | (go_at_call 45; refine (HL.out _).mono ?_; rintro e w' ⟨rfl, rfl⟩))
    go_ret2
    exact ⟨rfl, by go_grown⟩

theorem horizon_any (n a c : Int) (w : World) (h : HorIs n a c) :
    Calls Try.prog 26 #[.int .i64 n] w (RetP a c w) := by
  rcases h with ⟨h, rfl, rfl⟩ | ⟨h, rfl, rfl⟩
  · have HI := Lib.hid (fun w sv hs => h ▸ arehts_any sv [n] w hs)
    have H1 := ints_one w .i64 n 2
    clear h
    go_enter Try.func26, Try.ntmps26
    go_wp2_with (go_at_call 34; refine (HI.out _ _ H1).mono ?_; rintro e w' ⟨rfl, rfl⟩)
    go_ret2
    exact ⟨rfl, by go_grown⟩
  · have hb := inB_yes h
    have HI := Lib.hid (fun w sv hs => h ▸ arehts_any sv [n] w hs)
    have HL := Lib.hid (fun w => horof_any n w hb.1 (by omega))
    have H1 := ints_one w .i64 n 2
    generalize horV n = v at *
    clear h
    go_enter Try.func26, Try.ntmps26
    go_wp2_with (first
      | (go_at_call 34; refine (HI.out _ _ H1).mono ?_; rintro e w' ⟨rfl, rfl⟩)
      | (go_at_call 35; refine (HL.out _).mono ?_; rintro e w' ⟨rfl, rfl⟩))
    go_ret2
    exact ⟨rfl, by go_grown⟩

theorem inB_pair (lo hi a b : Int) : inB lo hi [a, b] = (inB lo hi [a] && inB lo hi [b]) := inB_two lo hi a b
theorem georange_any (h e a c : Int) (w : World) (hg : GeoIs h e a c) :
    Calls Try.prog 15 #[.int .i64 h, .int .i64 e] w (RetP a c w) := by
  unfold GeoIs at hg
  rw [← inB_pair] at hg
  rcases hg with ⟨hg, rfl, rfl⟩ | ⟨hg, rfl, rfl⟩
  · have HI := Lib.hid (fun w sv hs => hg ▸ arehts_any sv [h, e] w hs)
    have H1 := ints_two w h e
    clear hg
    go_enter Try.func15, Try.ntmps15
    go_wp2_with (go_at_call 34; refine (HI.out _ _ H1).mono ?_; rintro e w' ⟨rfl, rfl⟩)
    go_ret2
    exact ⟨rfl, by go_grown⟩
  · have hb := hg
    rw [inB_pair] at hb
    have hb1 := inB_yes (and_yes hb).1
    have hb2 := inB_yes (and_yes hb).2
    have HI := Lib.hid (fun w sv hs => hg ▸ arehts_any sv [h, e] w hs)
    have HL := fun w => horof_any h w hb1.1 (by omega)
    have HE := fun w => horof_any e w hb2.1 (by omega)
    have H1 := ints_two w h e
    obtain ⟨x0, x1⟩ := hor_bd hb1.1 (show h ≤ 3001 by omega)
    obtain ⟨y0, y1⟩ := hor_bd hb2.1 (show e ≤ 3001 by omega)
    generalize horV h = x at *
    generalize horV e = y at *
    have HL := Lib.hid HL
    have HE := Lib.hid HE
    clear hg hb
    go_enter Try.func15, Try.ntmps15
    go_wp2_with (first
      | (go_at_call 34; refine (HI.out _ _ H1).mono ?_; rintro e w' ⟨rfl, rfl⟩)
      | (go_at_call 35; with_reducible refine (HL.out _).mono ?_; rintro e w' ⟨rfl, rfl⟩; refine Hid.out ?_))
    refine Lib.hid ?_
    go_wp2_with (first
      | (go_at_call 35; with_reducible refine (HE.out _).mono ?_; rintro e w' ⟨rfl, rfl⟩))
    go_ret2
    exact ⟨rfl, by go_grown⟩

theorem lum_no1 (I V : Int) (w : World) (h : inB 1 100000000 [I] = false) :
    Calls Try.prog 18 #[.int .i64 I, .int .i64 V] w (RetP 0 2 w) := by
  have H1 := Lib.hid (fun w => h ▸ isint_any I w)
  clear h
  go_enter Try.func18, Try.ntmps18
  go_wp2_with (first
    | (go_at_call 39; refine (H1.out _).mono ?_; rintro e w1 ⟨rfl, hb⟩; have hsz := hb.size; have ac := Lib.hid (Below.next (a := w) (by go_grown) hb); clear hb))
  go_ret2
  exact ⟨rfl, ac.out⟩
theorem lum_no2 (I V : Int) (w : World) (h : inB 1 100000000 [I] = true) (k : inB 1 100000 [V] = false) :
    Calls Try.prog 18 #[.int .i64 I, .int .i64 V] w (RetP 0 2 w) := by
  have H1 := Lib.hid (fun w => h ▸ isint_any I w)
  have H2 := Lib.hid (fun w => k ▸ isvis_any V w)
  clear h k
  go_enter Try.func18, Try.ntmps18
  go_wp2_with (first
    | (go_at_call 39; refine (H1.out _).mono ?_; rintro e w1 ⟨rfl, hb⟩; have hsz := hb.size; have c0 := cell_below (a := ⟨w.heap.size, 0, none⟩) (v := .int .i64 I) (by go_cell) hb; have c1 := cell_below (a := ⟨w.heap.size + 1, 0, none⟩) (v := .int .i64 V) (by go_cell) hb; have ac := Lib.hid (Below.next (a := w) (by go_grown) hb); clear hb)
    | (go_at_call 40; refine (H2.out _).mono ?_; rintro e w2 ⟨rfl, hb⟩; have hsz2 := hb.size; have ac2 := Lib.hid (Below.next ac.out hb); clear hb))
  go_ret2
  exact ⟨rfl, ac2.out⟩

theorem int_no1 (D V : Int) (w : World) (h : inB 1 100000 [D] = false) :
    Calls Try.prog 20 #[.int .i64 D, .int .i64 V] w (RetP 0 2 w) := by
  have H1 := Lib.hid (fun w => h ▸ isdis_any D w)
  clear h
  go_enter Try.func20, Try.ntmps20
  go_wp2_with (first
    | (go_at_call 36; refine (H1.out _).mono ?_; rintro e w1 ⟨rfl, hb⟩; have hsz := hb.size; have ac := Lib.hid (Below.next (a := w) (by go_grown) hb); clear hb))
  go_ret2
  exact ⟨rfl, ac.out⟩
theorem int_no2 (D V : Int) (w : World) (h : inB 1 100000 [D] = true) (k : inB 1 100000 [V] = false) :
    Calls Try.prog 20 #[.int .i64 D, .int .i64 V] w (RetP 0 2 w) := by
  have H1 := Lib.hid (fun w => h ▸ isdis_any D w)
  have H2 := Lib.hid (fun w => k ▸ isvis_any V w)
  clear h k
  go_enter Try.func20, Try.ntmps20
  go_wp2_with (first
    | (go_at_call 36; refine (H1.out _).mono ?_; rintro e w1 ⟨rfl, hb⟩; have hsz := hb.size; have c0 := cell_below (a := ⟨w.heap.size, 0, none⟩) (v := .int .i64 D) (by go_cell) hb; have c1 := cell_below (a := ⟨w.heap.size + 1, 0, none⟩) (v := .int .i64 V) (by go_cell) hb; have ac := Lib.hid (Below.next (a := w) (by go_grown) hb); clear hb)
    | (go_at_call 40; refine (H2.out _).mono ?_; rintro e w2 ⟨rfl, hb⟩; have hsz2 := hb.size; have ac2 := Lib.hid (Below.next ac.out hb); clear hb))
  go_ret2
  exact ⟨rfl, ac2.out⟩

theorem vis_no1 (I D : Int) (w : World) (h : inB 1 100000000 [I] = false) :
    Calls Try.prog 21 #[.int .i64 I, .int .i64 D] w (RetP 0 2 w) := by
  have H1 := Lib.hid (fun w => h ▸ isint_any I w)
  clear h
  go_enter Try.func21, Try.ntmps21
  go_wp2_with (first
    | (go_at_call 39; refine (H1.out _).mono ?_; rintro e w1 ⟨rfl, hb⟩; have hsz := hb.size; have ac := Lib.hid (Below.next (a := w) (by go_grown) hb); clear hb))
  go_ret2
  exact ⟨rfl, ac.out⟩
theorem vis_no2 (I D : Int) (w : World) (h : inB 1 100000000 [I] = true) (k : inB 1 100000 [D] = false) :
    Calls Try.prog 21 #[.int .i64 I, .int .i64 D] w (RetP 0 2 w) := by
  have H1 := Lib.hid (fun w => h ▸ isint_any I w)
  have H2 := Lib.hid (fun w => k ▸ isdis_any D w)
  clear h k
  go_enter Try.func21, Try.ntmps21
  go_wp2_with (first
    | (go_at_call 39; refine (H1.out _).mono ?_; rintro e w1 ⟨rfl, hb⟩; have hsz := hb.size; have c0 := cell_below (a := ⟨w.heap.size, 0, none⟩) (v := .int .i64 I) (by go_cell) hb; have c1 := cell_below (a := ⟨w.heap.size + 1, 0, none⟩) (v := .int .i64 D) (by go_cell) hb; have ac := Lib.hid (Below.next (a := w) (by go_grown) hb); clear hb)
    | (go_at_call 36; refine (H2.out _).mono ?_; rintro e w2 ⟨rfl, hb⟩; have hsz2 := hb.size; have ac2 := Lib.hid (Below.next ac.out hb); clear hb))
  go_ret2
  exact ⟨rfl, ac2.out⟩

theorem lumclos (I V t : Int) (bx bz : Nat) (W : World) (i0 : 1 ≤ I) (i1 : I ≤ 100000000) (v0 : 1 ≤ V) (v1 : V ≤ 100000) (t0 : 1 ≤ t) (t1 : t ≤ 100001)
    (c0 : W.cell? ⟨bx, 0, none⟩ = some (.int .i64 I)) (c1 : W.cell? ⟨bz, 0, none⟩ = some (.int .i64 V)) :
    Calls Try.prog 42 (#[.int .i64 t] ++ #[.pointer (some ⟨bx, 0, none⟩), .pointer (some ⟨bz, 0, none⟩)]) W fun e w' => e = .returned (.bool (!seenB I V t)) ∧ Below W.heap.size W w' := by
  have HC := fun w => enough_any I t V w i0 (by omega) t0 t1 v0 (by omega)
  generalize seenB I V t = b at *
  have HC := Lib.hid HC
  go_enter Try.func42, Try.ntmps42
  go_wp2_with (go_at_call 43; refine (HC.out _).mono ?_; rintro e w1 ⟨rfl, hb⟩)
  go_ret
  exact ⟨rfl, hb⟩

theorem intclos (D V t : Int) (bx bz : Nat) (W : World) (d0 : 1 ≤ D) (d1 : D ≤ 100000) (v0 : 1 ≤ V) (v1 : V ≤ 100000) (t0 : 1 ≤ t) (t1 : t ≤ 100000001)
    (c0 : W.cell? ⟨bx, 0, none⟩ = some (.int .i64 D)) (c1 : W.cell? ⟨bz, 0, none⟩ = some (.int .i64 V)) :
    Calls Try.prog 46 (#[.int .i64 t] ++ #[.pointer (some ⟨bx, 0, none⟩), .pointer (some ⟨bz, 0, none⟩)]) W fun e w' => e = .returned (.bool (seenB t V D)) ∧ Below W.heap.size W w' := by
  have HC := fun w => enough_any t D V w t0 t1 d0 (by omega) v0 (by omega)
  generalize seenB t V D = b at *
  have HC := Lib.hid HC
  go_enter Try.func46, Try.ntmps46
  go_wp2_with (go_at_call 43; refine (HC.out _).mono ?_; rintro e w1 ⟨rfl, hb⟩)
  go_ret
  exact ⟨rfl, hb⟩

theorem visclos (I D t : Int) (bx bz : Nat) (W : World) (i0 : 1 ≤ I) (i1 : I ≤ 100000000) (d0 : 1 ≤ D) (d1 : D ≤ 100000) (t0 : 1 ≤ t) (t1 : t ≤ 100001)
    (c0 : W.cell? ⟨bx, 0, none⟩ = some (.int .i64 I)) (c1 : W.cell? ⟨bz, 0, none⟩ = some (.int .i64 D)) :
    Calls Try.prog 47 (#[.int .i64 t] ++ #[.pointer (some ⟨bx, 0, none⟩), .pointer (some ⟨bz, 0, none⟩)]) W fun e w' => e = .returned (.bool (seenB I t D)) ∧ Below W.heap.size W w' := by
  have HC := fun w => enough_any I D t w i0 (by omega) d0 (by omega) t0 t1
  generalize seenB I t D = b at *
  have HC := Lib.hid HC
  go_enter Try.func47, Try.ntmps47
  go_wp2_with (go_at_call 43; refine (HC.out _).mono ?_; rintro e w1 ⟨rfl, hb⟩)
  go_ret
  exact ⟨rfl, hb⟩

theorem eyeclos (h D t : Int) (bx bz : Nat) (W : World) (h0 : 0 ≤ h) (h1 : h ≤ 3000) (t0 : 0 ≤ t) (t1 : t ≤ 3001)
    (c0 : W.cell? ⟨bx, 0, none⟩ = some (.int .i64 h)) (c1 : W.cell? ⟨bz, 0, none⟩ = some (.int .i64 D)) :
    Calls Try.prog 38 (#[.int .i64 t] ++ #[.pointer (some ⟨bx, 0, none⟩), .pointer (some ⟨bz, 0, none⟩)]) W fun e w' => e = .returned (.bool (eyeB h D t)) ∧ Below W.heap.size W w' := by
  have HL := fun n => quiet_eqs (w := W) (n := n) (horof_any h (W.drewN n) h0 (by omega))
  have HE := fun n => quiet_eqs (w := W) (n := n) (horof_any t (W.drewN n) t0 t1)
  obtain ⟨x0, x1⟩ := hor_bd h0 (show h ≤ 3001 by omega)
  obtain ⟨y0, y1⟩ := hor_bd t0 t1
  have HV := Lib.hid (show eyeB h D t = decide (D ≤ horV h + horV t) from rfl)
  generalize eyeB h D t = b at *
  generalize horV h = x at *
  generalize horV t = y at *
  have HL := Lib.hid HL
  have HE := Lib.hid HE
  go_enter Try.func38, Try.ntmps38
  go_wp2
  go_quiet ((go_at_call 35; first | (with_reducible exact HL.out _) | (with_reducible exact HE.out _)))
  go_wp2
  go_ret
  exact ⟨retB HV.out.symm, fall W nq⟩

/-- Cells of two variables, ahead of the search. -/
def Two (w : World) (x y : Int) (W : World) : Prop := W.cell? ⟨w.heap.size, 0, none⟩ = some (.int .i64 x) ∧ W.cell? ⟨w.heap.size + 1, 0, none⟩ = some (.int .i64 y)

set_option maxHeartbeats 1000000 in
theorem lum_yes (I V a : Int) (w : World) (h : inB 1 100000000 [I] = true) (k : inB 1 100000 [V] = true) (hm : Most (seenB I V) 100000 a) :
    Calls Try.prog 18 #[.int .i64 I, .int .i64 V] w (RetP a 0 w) := by
  have hI := inB_yes h
  have hV := inB_yes k
  have H1 := Lib.hid (fun w => h ▸ isint_any I w)
  have H2 := Lib.hid (fun w => k ▸ isvis_any V w)
  have eg : ∀ args w, (callFunc 42 args).run Try.prog w = .ok (.enter 42 args) w := enters_of Try.func42 (by kernel_rfl) rfl
  have HS := Lib.hid (show ∀ W, Two w I V W → Calls Try.prog 41 #[.int .i64 1, .int .i64 100001, .func (.func 42) #[] #[.pointer (some ⟨w.heap.size, 0, none⟩), .pointer (some ⟨w.heap.size + 1, 0, none⟩)]] W fun e w' => e = .returned (.int .i64 (a + 1)) ∧ Below W.heap.size W w' from fun W ⟨q0, q1⟩ => by
    have := firstnum_any 42 #[.pointer (some ⟨w.heap.size, 0, none⟩), .pointer (some ⟨w.heap.size + 1, 0, none⟩)] (fun t => !seenB I V t) 1 100000 W eg (by omega) (by omega) (by omega)
      (fun W2 i hi hb => lumclos I V (1 + (i : Int)) w.heap.size (w.heap.size + 1) W2 hI.1 hI.2 hV.1 hV.2 (by omega) (by omega) (cell_below q0 hb) (cell_below q1 hb))
      (fun x y hxy hy hp => by
        cases e : seenB I V (1 + (y : Int)) with
        | false => rfl
        | true => simp only [lum_mono hV.1 (1 + (x : Int)) (1 + (y : Int)) (by omega) (by omega) (by omega) e] at hp; cases hp)
    refine this.mono ?_
    rintro e w1 ⟨r, rfl, hr, h1, h2, hb⟩
    have e1 : a = r := hm.one ⟨by omega, by omega, fun t q1 q2 => by
      have := h1 (t - 1).toNat (by omega)
      rw [show (1 : Int) + ((t - 1).toNat : Int) = t by omega] at this
      simpa using this, fun t q1 q2 => by
      have := h2 (t - 1).toNat (by omega) (by omega)
      rw [show (1 : Int) + ((t - 1).toNat : Int) = t by omega] at this
      simpa using this⟩
    exact ⟨ret_i (by omega), hb⟩)
  obtain ⟨a0, a1, _, _⟩ := hm
  clear h k eg
  go_enter Try.func18, Try.ntmps18
  go_wp2_with (first
    | (go_at_call 39; refine (H1.out _).mono ?_; rintro e w1 ⟨rfl, hb⟩; have hsz := hb.size; have c0 := cell_below (a := ⟨w.heap.size, 0, none⟩) (v := .int .i64 I) (by go_cell) hb; have c1 := cell_below (a := ⟨w.heap.size + 1, 0, none⟩) (v := .int .i64 V) (by go_cell) hb; have ac := Lib.hid (Below.next (a := w) (by go_grown) hb); clear hb)
    | (go_at_call 40; refine (H2.out _).mono ?_; rintro e w2 ⟨rfl, hb⟩; have hsz2 := hb.size; have c0 := cell_below c0 hb; have c1 := cell_below c1 hb; have ac2 := Lib.hid (Below.next ac.out hb); clear hb)
    | (go_at_call 41; refine (HS.out _ ⟨c0, c1⟩).mono ?_; rintro e w3 ⟨rfl, hb⟩; have ac3 := Lib.hid (Below.next ac2.out hb); clear hb))
  go_ret2
  exact ⟨retII (by omega) rfl, ac3.out⟩
theorem luminous_any (I V a c : Int) (w : World) (hl : LumIs I V a c) :
    Calls Try.prog 18 #[.int .i64 I, .int .i64 V] w (RetP a c w) := by
  rcases hl with ⟨h, rfl, rfl⟩ | ⟨h, hm, rfl⟩
  · cases h1 : inB 1 100000000 [I]
    · exact lum_no1 I V w h1
    · rw [h1, Bool.true_and] at h
      exact lum_no2 I V w h1 h
  · exact lum_yes I V a w (and_yes h).1 (and_yes h).2 hm

set_option maxHeartbeats 1000000 in
theorem int_yes (D V a c : Int) (w : World) (h : inB 1 100000 [D] = true) (k : inB 1 100000 [V] = true) (hm : LeastIs (fun I => seenB I V D) 1 100000000 a c) :
    Calls Try.prog 20 #[.int .i64 D, .int .i64 V] w (RetP a c w) := by
  have hX := inB_yes h
  have hY := inB_yes k
  have H1 := Lib.hid (fun w => h ▸ isdis_any D w)
  have H2 := Lib.hid (fun w => k ▸ isvis_any V w)
  have eg : ∀ args w, (callFunc 46 args).run Try.prog w = .ok (.enter 46 args) w := enters_of Try.func46 (by kernel_rfl) rfl
  have HS := Lib.hid (show ∀ W, Two w D V W → Calls Try.prog 37 #[.int .i64 1, .int .i64 100000000, .func (.func 46) #[] #[.pointer (some ⟨w.heap.size, 0, none⟩), .pointer (some ⟨w.heap.size + 1, 0, none⟩)]] W (RetP a c W) from fun W ⟨q0, q1⟩ =>
    leastthat_any 46 #[.pointer (some ⟨w.heap.size, 0, none⟩), .pointer (some ⟨w.heap.size + 1, 0, none⟩)] (fun I => seenB I V D) 1 100000000 a c W eg (by omega) (by omega) (by omega)
      (fun W2 i hi hb => intclos D V (1 + (i : Int)) w.heap.size (w.heap.size + 1) W2 hX.1 hX.2 hY.1 hY.2 (by omega) (by omega) (cell_below q0 hb) (cell_below q1 hb))
      (fun x y hxy hy hp => seen_I (by omega) (by omega) (by omega) hp) hm)
  clear h k eg hm
  go_enter Try.func20, Try.ntmps20
  go_wp2_with (first
    | (go_at_call 36; refine (H1.out _).mono ?_; rintro e w1 ⟨rfl, hb⟩; have hsz := hb.size; have c0 := cell_below (a := ⟨w.heap.size, 0, none⟩) (v := .int .i64 D) (by go_cell) hb; have c1 := cell_below (a := ⟨w.heap.size + 1, 0, none⟩) (v := .int .i64 V) (by go_cell) hb; have ac := Lib.hid (Below.next (a := w) (by go_grown) hb); clear hb)
    | (go_at_call 40; refine (H2.out _).mono ?_; rintro e w2 ⟨rfl, hb⟩; have hsz2 := hb.size; have c0 := cell_below c0 hb; have c1 := cell_below c1 hb; have ac2 := Lib.hid (Below.next ac.out hb); clear hb)
    | (go_at_call 37; refine (HS.out _ ⟨c0, c1⟩).mono ?_; rintro e w3 ⟨rfl, hb⟩; have ac3 := Lib.hid (Below.next ac2.out hb); clear hb))
  go_ret2
  exact ⟨rfl, ac3.out⟩
theorem intensity_any (D V a c : Int) (w : World) (hl : IntIs D V a c) :
    Calls Try.prog 20 #[.int .i64 D, .int .i64 V] w (RetP a c w) := by
  rcases hl with ⟨h, rfl, rfl⟩ | ⟨h, hm⟩
  · cases h1 : inB 1 100000 [D]
    · exact int_no1 D V w h1
    · rw [h1, Bool.true_and] at h
      exact int_no2 D V w h1 h
  · exact int_yes D V a c w (and_yes h).1 (and_yes h).2 hm

set_option maxHeartbeats 1000000 in
theorem vis_yes (I D a c : Int) (w : World) (h : inB 1 100000000 [I] = true) (k : inB 1 100000 [D] = true) (hm : LeastIs (fun V => seenB I V D) 1 100000 a c) :
    Calls Try.prog 21 #[.int .i64 I, .int .i64 D] w (RetP a c w) := by
  have hX := inB_yes h
  have hY := inB_yes k
  have H1 := Lib.hid (fun w => h ▸ isint_any I w)
  have H2 := Lib.hid (fun w => k ▸ isdis_any D w)
  have eg : ∀ args w, (callFunc 47 args).run Try.prog w = .ok (.enter 47 args) w := enters_of Try.func47 (by kernel_rfl) rfl
  have HS := Lib.hid (show ∀ W, Two w I D W → Calls Try.prog 37 #[.int .i64 1, .int .i64 100000, .func (.func 47) #[] #[.pointer (some ⟨w.heap.size, 0, none⟩), .pointer (some ⟨w.heap.size + 1, 0, none⟩)]] W (RetP a c W) from fun W ⟨q0, q1⟩ =>
    leastthat_any 47 #[.pointer (some ⟨w.heap.size, 0, none⟩), .pointer (some ⟨w.heap.size + 1, 0, none⟩)] (fun V => seenB I V D) 1 100000 a c W eg (by omega) (by omega) (by omega)
      (fun W2 i hi hb => visclos I D (1 + (i : Int)) w.heap.size (w.heap.size + 1) W2 hX.1 hX.2 hY.1 hY.2 (by omega) (by omega) (cell_below q0 hb) (cell_below q1 hb))
      (fun x y hxy hy hp => seen_V hY.1 (by omega) (by omega) hp) hm)
  clear h k eg hm
  go_enter Try.func21, Try.ntmps21
  go_wp2_with (first
    | (go_at_call 39; refine (H1.out _).mono ?_; rintro e w1 ⟨rfl, hb⟩; have hsz := hb.size; have c0 := cell_below (a := ⟨w.heap.size, 0, none⟩) (v := .int .i64 I) (by go_cell) hb; have c1 := cell_below (a := ⟨w.heap.size + 1, 0, none⟩) (v := .int .i64 D) (by go_cell) hb; have ac := Lib.hid (Below.next (a := w) (by go_grown) hb); clear hb)
    | (go_at_call 36; refine (H2.out _).mono ?_; rintro e w2 ⟨rfl, hb⟩; have hsz2 := hb.size; have c0 := cell_below c0 hb; have c1 := cell_below c1 hb; have ac2 := Lib.hid (Below.next ac.out hb); clear hb)
    | (go_at_call 37; refine (HS.out _ ⟨c0, c1⟩).mono ?_; rintro e w3 ⟨rfl, hb⟩; have ac3 := Lib.hid (Below.next ac2.out hb); clear hb))
  go_ret2
  exact ⟨rfl, ac3.out⟩
theorem visibility_any (I D a c : Int) (w : World) (hl : VisIs I D a c) :
    Calls Try.prog 21 #[.int .i64 I, .int .i64 D] w (RetP a c w) := by
  rcases hl with ⟨h, rfl, rfl⟩ | ⟨h, hm⟩
  · cases h1 : inB 1 100000000 [I]
    · exact vis_no1 I D w h1
    · rw [h1, Bool.true_and] at h
      exact vis_no2 I D w h1 h
  · exact vis_yes I D a c w (and_yes h).1 (and_yes h).2 hm

theorem eye_no1 (h D : Int) (w : World) (hh : inB 0 3000 [h] = false) :
    Calls Try.prog 16 #[.int .i64 h, .int .i64 D] w (RetP 0 2 w) := by
  have HI := Lib.hid (fun w sv hs => hh ▸ arehts_any sv [h] w hs)
  have H1 := ints_one_at ((w.alloc (.cells #[.int .i64 h] 2)).alloc (.cells #[.int .i64 D] 2)) h (w.heap.size + 1 + 1) (by simp)
  clear hh
  go_enter Try.func16, Try.ntmps16
  go_wp2_with (first
    | (go_at_call 34; refine (HI.out _ _ H1).mono ?_; rintro e w1 ⟨rfl, rfl⟩))
  go_ret2
  exact ⟨rfl, by go_grown⟩
theorem eye_no2 (h D : Int) (w : World) (hh : inB 0 3000 [h] = true) (k : inB 1 100000 [D] = false) :
    Calls Try.prog 16 #[.int .i64 h, .int .i64 D] w (RetP 0 2 w) := by
  have HI := Lib.hid (fun w sv hs => hh ▸ arehts_any sv [h] w hs)
  have H2 := Lib.hid (fun w => k ▸ isdis_any D w)
  have H1 := ints_one_at ((w.alloc (.cells #[.int .i64 h] 2)).alloc (.cells #[.int .i64 D] 2)) h (w.heap.size + 1 + 1) (by simp)
  clear hh k
  go_enter Try.func16, Try.ntmps16
  go_wp2_with (first
    | (go_at_call 34; refine (HI.out _ _ H1).mono ?_; rintro e w1 ⟨rfl, rfl⟩)
    | (go_at_call 36; refine (H2.out _).mono ?_; rintro e w2 ⟨rfl, hb⟩; have hsz2 := hb.size; have ac2 := Lib.hid (Below.next (a := w) (by go_grown) hb); clear hb))
  go_ret2
  exact ⟨rfl, ac2.out⟩
set_option maxHeartbeats 1000000 in
theorem eye_yes (h D a c : Int) (w : World) (hh : inB 0 3000 [h] = true) (k : inB 1 100000 [D] = true) (hm : LeastIs (eyeB h D) 0 3000 a c) :
    Calls Try.prog 16 #[.int .i64 h, .int .i64 D] w (RetP a c w) := by
  have hX := inB_yes hh
  have HI := Lib.hid (fun w sv hs => hh ▸ arehts_any sv [h] w hs)
  have H2 := Lib.hid (fun w => k ▸ isdis_any D w)
  have H1 := ints_one_at ((w.alloc (.cells #[.int .i64 h] 2)).alloc (.cells #[.int .i64 D] 2)) h (w.heap.size + 1 + 1) (by simp)
  have eg : ∀ args w, (callFunc 38 args).run Try.prog w = .ok (.enter 38 args) w := enters_of Try.func38 (by kernel_rfl) rfl
  have HS := Lib.hid (show ∀ W, Two w h D W → Calls Try.prog 37 #[.int .i64 0, .int .i64 3000, .func (.func 38) #[] #[.pointer (some ⟨w.heap.size, 0, none⟩), .pointer (some ⟨w.heap.size + 1, 0, none⟩)]] W (RetP a c W) from fun W ⟨q0, q1⟩ =>
    leastthat_any 38 #[.pointer (some ⟨w.heap.size, 0, none⟩), .pointer (some ⟨w.heap.size + 1, 0, none⟩)] (eyeB h D) 0 3001 a c W eg (by omega) (by omega) (by omega)
      (fun W2 i hi hb => eyeclos h D (0 + (i : Int)) w.heap.size (w.heap.size + 1) W2 hX.1 hX.2 (by omega) (by omega) (cell_below q0 hb) (cell_below q1 hb))
      (fun x y hxy hy hp => eye_mono (by omega) (by omega) hp) hm)
  clear hh k eg hm
  go_enter Try.func16, Try.ntmps16
  go_wp2_with (first
    | (go_at_call 34; refine (HI.out _ _ H1).mono ?_; rintro e w1 ⟨rfl, rfl⟩)
    | (go_at_call 36; refine (H2.out _).mono ?_; rintro e w2 ⟨rfl, hb⟩; have hsz2 := hb.size; have c0 := cell_below (a := ⟨w.heap.size, 0, none⟩) (v := .int .i64 h) (by go_cell) hb; have c1 := cell_below (a := ⟨w.heap.size + 1, 0, none⟩) (v := .int .i64 D) (by go_cell) hb; have ac2 := Lib.hid (Below.next (a := w) (by go_grown) hb); clear hb)
    | (go_at_call 37; refine (HS.out _ ⟨c0, c1⟩).mono ?_; rintro e w3 ⟨rfl, hb⟩; have ac3 := Lib.hid (Below.next ac2.out hb); clear hb))
  go_ret2
  exact ⟨rfl, ac3.out⟩
theorem eyefor_any (h D a c : Int) (w : World) (hl : EyeIs h D a c) :
    Calls Try.prog 16 #[.int .i64 h, .int .i64 D] w (RetP a c w) := by
  rcases hl with ⟨k, rfl, rfl⟩ | ⟨k, hm⟩
  · cases h1 : inB 0 3000 [h]
    · exact eye_no1 h D w h1
    · rw [h1, Bool.true_and] at k
      exact eye_no2 h D w h1 k
  · exact eye_yes h D a c w (and_yes k).1 (and_yes k).2 hm

theorem nominal_any (I a c : Int) (w : World) (hl : LumIs I 18520 a c) :
    Calls Try.prog 30 #[.int .i64 I] w (RetP a c w) := by
  have HL := Lib.hid (luminous_any I 18520 a c w hl)
  clear hl
  go_enter Try.func30, Try.ntmps30
  go_wp2_with (go_at_call 18; refine HL.out.mono ?_; rintro e w1 ⟨rfl, hb⟩)
  go_ret2
  exact ⟨rfl, hb⟩
theorem rangeof_any (I h e V a c : Int) (w : World) (hl : RngIs I h e V a c) :
    Calls Try.prog 23 #[.int .i64 I, .int .i64 h, .int .i64 e, .int .i64 V] w (RetP a c w) := by
  obtain ⟨x, y, k, l, h1, h2, h3⟩ := hl
  have HL := Lib.hid (fun w => luminous_any I V x k w h1)
  have HG := Lib.hid (fun w => georange_any h e y l w h2)
  clear h1 h2
  rcases h3 with ⟨rfl, rfl, rfl, rfl⟩ | ⟨h3, rfl, rfl⟩
  · have HM := fun w sv hs => least_any x sv [y] w hs
    rw [show Pm.leastOf x [y] = (if y < x then y else x) from rfl] at HM
    obtain ⟨v, ev⟩ : ∃ v, v = (if y < x then y else x) := ⟨_, rfl⟩
    rw [← ev] at HM ⊢
    clear ev
    have HM := Lib.hid HM
    go_enter Try.func23, Try.ntmps23
    go_wp2_with (first
      | (go_at_call 18; refine (HL.out _).mono ?_; rintro e w1 ⟨rfl, hb⟩; have ac := Lib.hid hb; clear hb)
      | (go_at_call 15; refine (HG.out _).mono ?_; rintro e w2 ⟨rfl, hb⟩; have ac2 := Lib.hid (Below.next ac.out hb); have H1 := ints_one w2 .i64 y 2; clear hb)
      | (go_at_call 50; refine (HM.out _ _ H1).mono ?_; rintro e w3 ⟨rfl, rfl⟩))
    go_ret2
    exact ⟨rfl, ac2.out.alloc ac2.out.size _⟩
  · by_cases k0 : k = 0
    · have l0 : (l != 0) = true := by simp; omega
      have k1 : (k != 0) = false := by simp [k0]
      clear h3 k0
      go_enter Try.func23, Try.ntmps23
      go_wp2_with (first
        | (go_at_call 18; refine (HL.out _).mono ?_; rintro e w1 ⟨rfl, hb⟩; have ac := Lib.hid hb; clear hb)
        | (go_at_call 15; refine (HG.out _).mono ?_; rintro e w2 ⟨rfl, hb⟩; have ac2 := Lib.hid (Below.next ac.out hb); clear hb))
      go_ret2
      exact ⟨rfl, ac2.out⟩
    · have k1 : (k != 0) = true := by simp [k0]
      clear h3 k0
      go_enter Try.func23, Try.ntmps23
      go_wp2_with (first
        | (go_at_call 18; refine (HL.out _).mono ?_; rintro e w1 ⟨rfl, hb⟩; have ac := Lib.hid hb; clear hb)
        | (go_at_call 15; refine (HG.out _).mono ?_; rintro e w2 ⟨rfl, hb⟩; have ac2 := Lib.hid (Below.next ac.out hb); clear hb))
      go_ret2
      exact ⟨rfl, ac2.out⟩

end Go.Proofs.Ytagebpmciimcgaa