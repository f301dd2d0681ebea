/- The text of a danger: pure, the program's, the model's. -/
import Derived.Test.YthccbipjmheoaaaDoorDgv
import Derived.Test.YthccbipjmheoaaaDoorPtText
import Derived.Deep.RegionHeld3
import Derived.Laws.IdiomStrings
namespace Go.Proofs.YthccbipjmheoaaaDoor
open Go.ChangeShapes Go.WideShapes Go.ChangeAt Go.RowKit Pm

theorem pttext_size (x y : Int) : (ptText x y).size ≤ 50 := by
  unfold ptText
  split
  · rename_i h
    have hb : (0 ≤ x ∧ x ≤ 200000) ∧ 0 ≤ y ∧ y ≤ 200000 := by simpa [inB] using h
    have lx := Lib.itoa_length_le x (by omega) (by omega)
    have ly := Lib.itoa_length_le y (by omega) (by omega)
    show (jn [x, y]).toArray.size ≤ 50
    rw [List.size_toArray]
    simp [jn, Lib.join, List.intercalate, List.intersperse]
    omega
  · exact Nat.zero_le _
theorem itoa_sized {n : Int} (h0 : 0 ≤ n) (h1 : n ≤ 20000) : (itoaS n).size ≤ 30 := by
  have := Lib.itoa_length_le n (by omega) (by omega)
  have e : (itoaS n).size = (Lib.itoa n).length := by unfold itoaS; show (Lib.itoa n).toArray.size = _; rw [List.size_toArray]
  omega
/-- Three words. -/
def threeT (a b c : ByteArray) : ByteArray := a ++ ⟨#[32]⟩ ++ b ++ ⟨#[32]⟩ ++ c
theorem join_three (a b c : ByteArray) : (⟨(Lib.join ([a, b, c].map (·.data.toList)) [32]).toArray⟩ : ByteArray) = threeT a b c := by
  refine WideShapes.bytes_inj ?_
  unfold threeT
  simp [Lib.join, List.intercalate, List.intersperse]
theorem join_three_len (a b c : ByteArray) (ha : a.size ≤ 50) (hb : b.size ≤ 50) (hc : c.size ≤ 50) : (Lib.join ([a, b, c].map (·.data.toList)) [32]).length ≤ 140737488355328 := by
  have h1 : a.data.toList.length ≤ 50 := ha
  have h2 : b.data.toList.length ≤ 50 := hb
  have h3 : c.data.toList.length ≤ 50 := hc
  simp only [Lib.join, List.intercalate, List.map_cons, List.map_nil]
  simp [List.intersperse]
  omega
/-- The text of a danger. -/
def dgText (q : Dg) : ByteArray := if okD q = true then threeT q.1 (ptText q.2.1 q.2.2.1) (itoaS q.2.2.2) else ⟨#[]⟩
theorem keepDg {w0 w w1 : World} {a0 a1 a2 a3 : Addr} {v0 v1 v2 v3 : Value} (hb : Below w.heap.size w w1) (h : w.cell? a0 = some v0 ∧ w.cell? a1 = some v1 ∧ w.cell? a2 = some v2 ∧ w.cell? a3 = some v3 ∧ PowAt w ∧ Below w0.heap.size w0 w) :
    w1.cell? a0 = some v0 ∧ w1.cell? a1 = some v1 ∧ w1.cell? a2 = some v2 ∧ w1.cell? a3 = some v3 ∧ PowAt w1 ∧ Below w0.heap.size w0 w1 := by
  obtain ⟨h0, h1, h2, h3, h4, h5⟩ := h
  exact ⟨cell_below h0 hb, cell_below h1 hb, cell_below h2 hb, cell_below h3 hb, h4.below hb, Below.next h5 hb⟩
theorem keepDga {w0 w : World} {a0 a1 a2 a3 : Addr} {v0 v1 v2 v3 : Value} {o : Obj} (h : w.cell? a0 = some v0 ∧ w.cell? a1 = some v1 ∧ w.cell? a2 = some v2 ∧ w.cell? a3 = some v3 ∧ PowAt w ∧ Below w0.heap.size w0 w) :
    (w.alloc o).cell? a0 = some v0 ∧ (w.alloc o).cell? a1 = some v1 ∧ (w.alloc o).cell? a2 = some v2 ∧ (w.alloc o).cell? a3 = some v3 ∧ PowAt (w.alloc o) ∧ Below w0.heap.size w0 (w.alloc o) :=
  keepDg ((Below.refl _ _).alloc (Nat.le_refl _) o) h
theorem keepDgd {w0 w : World} {a0 a1 a2 a3 : Addr} {v0 v1 v2 v3 : Value} (h : w.cell? a0 = some v0 ∧ w.cell? a1 = some v1 ∧ w.cell? a2 = some v2 ∧ w.cell? a3 = some v3 ∧ PowAt w ∧ Below w0.heap.size w0 w) :
    w.drew.cell? a0 = some v0 ∧ w.drew.cell? a1 = some v1 ∧ w.drew.cell? a2 = some v2 ∧ w.drew.cell? a3 = some v3 ∧ PowAt w.drew ∧ Below w0.heap.size w0 w.drew :=
  keepDg (Below.refl _ _).drew h
set_option maxRecDepth 100000 in
set_option maxHeartbeats 2000000 in
theorem dangertext_any (s : ByteArray) (x y z : Int) (w : World) (hs : s.size ≤ maxLen) (hp : PowAt w) :
    Calls Tryd.prog 17 #[.agg #[.string s, .int .i64 x, .int .i64 y, .int .i64 z]] w fun e w' => e = .returned (.string (dgText (s, x, y, z))) ∧ Below w.heap.size w w' := by
  have HV := fun w' => validdg_any s x y z w' hs
  have HPW := Lib.hid hp
  clear hp
  cases hk : okD (s, x, y, z)
  · rw [hk] at HV
    have HV := Lib.hid HV
    rw [show dgText (s, x, y, z) = ⟨#[]⟩ by unfold dgText; rw [hk]; rfl]
    clear hk
    go_enter Tryd.func17, Tryd.ntmps17
    go_wp2_with (go_at_call 21; (refine (HV.out _).mono ?_); rintro e w1 ⟨rfl, hb⟩; have AC := Lib.hid (Below.next (a := w) (by go_grown) hb); clear hb)
    go_ret
    exact ⟨rfl, AC.out⟩
  · rw [hk] at HV
    have HV := Lib.hid HV
    obtain ⟨z10, _, _, z1, z2⟩ := okD_parts hk
    simp only at z10 z1 z2
    rw [show dgText (s, x, y, z) = threeT s (ptText x y) (itoaS z) by unfold dgText; rw [hk]; rfl]
    have zp := pttext_size x y
    have zi := itoa_sized (n := z) (by omega) (by omega)
    have HT := Lib.hid (fun (w' : World) (h : w'.cell? ⟨w.heap.size, 0, none⟩ = some (.string s) ∧ w'.cell? ⟨w.heap.size, 1, none⟩ = some (.int .i64 x) ∧ w'.cell? ⟨w.heap.size, 2, none⟩ = some (.int .i64 y) ∧ w'.cell? ⟨w.heap.size, 3, none⟩ = some (.int .i64 z) ∧ PowAt w' ∧ Below w.heap.size w w') => pointtext_any x y w' h.2.2.2.2.1)
    have HD := Lib.hid (fun (w' : World) (h : w'.cell? ⟨w.heap.size, 0, none⟩ = some (.string s) ∧ w'.cell? ⟨w.heap.size, 1, none⟩ = some (.int .i64 x) ∧ w'.cell? ⟨w.heap.size, 2, none⟩ = some (.int .i64 y) ∧ w'.cell? ⟨w.heap.size, 3, none⟩ = some (.int .i64 z) ∧ PowAt w' ∧ Below w.heap.size w w') => (show Calls Tryd.prog 33 #[.int .i64 z] w' fun e w'' => e = .returned (.string (itoaS z)) ∧ Below w'.heap.size w' w'' from decimal_any z w' (by omega) (by omega) h.2.2.2.2.1))
    have HJF := Lib.hid (join_three s (ptText x y) (itoaS z))
    have HLN := Lib.hid (join_three_len s (ptText x y) (itoaS z) (by omega) zp (by omega))
    generalize ptText x y = T at *
    generalize itoaS z = R at *
    have HJ := Lib.hid (fun (g : Nat) (w' : World) (hc : ∀ (j : Nat) x, [s, T, R][j]? = some x → w'.cell? ⟨g, 0 + j, none⟩ = some (.string x)) (hg : g < w'.heap.size) => Any.strings_Join Tryd.lays156 Tryd.Builder_Extra_156 g 0 3 [s, T, R] ⟨#[32]⟩ w' hc hg (by simp) (by simp) HLN.out)
    clear hk z1 z2 zp zi z10 HLN
    go_enter Tryd.func17, Tryd.ntmps17
    go_wp2_with (go_at_call 21; (refine (HV.out _).mono ?_); rintro e w1 ⟨rfl, hb⟩; refine Hid.out ?_)
    refine Lib.hid ?_
    have H0 := Lib.hid (show w1.cell? ⟨w.heap.size, 0, none⟩ = some (.string s) ∧ w1.cell? ⟨w.heap.size, 1, none⟩ = some (.int .i64 x) ∧ w1.cell? ⟨w.heap.size, 2, none⟩ = some (.int .i64 y) ∧ w1.cell? ⟨w.heap.size, 3, none⟩ = some (.int .i64 z) ∧ PowAt w1 ∧ Below w.heap.size w w1 from ⟨cell_below (by go_cell) hb, cell_below (by go_cell) hb, cell_below (by go_cell) hb, cell_below (by go_cell) hb, HPW.out.below (Below.next (by go_grown) hb), Below.next (by go_grown) hb⟩)
    clear hb HV HPW
    go_wp2_with (fail)
    go_region_held3 (fun w' => w'.cell? ⟨w.heap.size, 0, none⟩ = some (.string s) ∧ w'.cell? ⟨w.heap.size, 1, none⟩ = some (.int .i64 x) ∧ w'.cell? ⟨w.heap.size, 2, none⟩ = some (.int .i64 y) ∧ w'.cell? ⟨w.heap.size, 3, none⟩ = some (.int .i64 z) ∧ PowAt w' ∧ Below w.heap.size w w')
      (first | (with_reducible assumption) | (with_reducible exact keepDg (by assumption) (by assumption)) | (with_reducible exact keepDga (by assumption)) | (with_reducible exact keepDgd H0.out))
      (first
        | (go_at_call 32; (with_reducible refine (HT.out _ (by assumption)).mono ?_); rintro en w2 ⟨rfl, hb⟩)
        | (go_at_call 33; (with_reducible refine (HD.out _ (by assumption)).mono ?_); rintro en w3 ⟨rfl, hb⟩)
        | (go_at_call 31; (refine (HJ.out _ _ ?_ ?_).mono ?_); (· intro j x hx; have hj : j = 0 ∨ j = 1 ∨ j = 2 := (by have := (List.getElem?_eq_some_iff.1 hx).1; simp at this; omega); rcases hj with rfl | rfl | rfl <;> simp at hx <;> subst hx <;> simp); (· simp); rintro en w4 ⟨rfl, hb⟩))
    all_goals
      rename_i hH
      have HB2 := Lib.hid hH.2.2.2.2.2
      clear hH
      go_wp2_with (fail)
      go_ret
      exact ⟨retS HJF.out, HB2.out⟩
set_option maxRecDepth 100000 in
set_option maxHeartbeats 2000000 in
theorem sdgtext_any (b : Nat) (s : ByteArray) (x y z : Int) (w : World) (hv : okD (s, x, y, z) = true) (h : DgAt w b 0 (s, x, y, z)) :
    Calls Tryd.prog 30 #[.pointer (some ⟨b, 0, none⟩)] w fun e w' => e = .returned (.string (threeT s (ptText x y) (itoaS z))) ∧ Below w.heap.size w w' := by
  obtain ⟨z10, _, hok, z1, z2⟩ := okD_parts hv
  simp only at z10 hok z1 z2
  have zp := pttext_size x y
  have zi := itoa_sized (n := z) (by omega) (by omega)
  have HT := Lib.hid (fun w' => (stext_any x y w' hok).mono (R' := fun e w'' => e = .returned (.string (ptText x y)) ∧ Below w'.heap.size w' w'') (fun e w'' h => by rw [show ptText x y = ⟨(jn [x, y]).toArray⟩ by unfold ptText; rw [if_pos (show inB 0 200000 [x, y] = true from hok)]]; exact h))
  have HD := Lib.hid (fun w' => (show Calls Tryd.prog 48 #[.int .i64 z] w' fun e w'' => e = .returned (.string (itoaS z)) ∧ Below w'.heap.size w' w'' from sdec_any z w' (by omega) (by omega)))
  have HE := Lib.hid (show s ++ ⟨#[32]⟩ ++ ptText x y ++ ⟨#[32]⟩ ++ itoaS z = threeT s (ptText x y) (itoaS z) from rfl)
  have o1 : (⟨#[32]⟩ : ByteArray).size = 1 := rfl
  generalize ptText x y = T at *
  generalize itoaS z = R at *
  have q1 := fun w => run_string_add_sum (P := Tryd.prog) (w := w) s ⟨#[32]⟩ (by rw [o1]; omega)
  have q2 := fun w => run_string_add_sum (P := Tryd.prog) (w := w) (s ++ ⟨#[32]⟩) T (by simp only [ByteArray.size_append, o1]; omega)
  have q3 := fun w => run_string_add_sum (P := Tryd.prog) (w := w) (s ++ ⟨#[32]⟩ ++ T) ⟨#[32]⟩ (by simp only [ByteArray.size_append, o1]; omega)
  have q4 := fun w => run_string_add_sum (P := Tryd.prog) (w := w) (s ++ ⟨#[32]⟩ ++ T ++ ⟨#[32]⟩) R (by simp only [ByteArray.size_append, o1]; omega)
  obtain ⟨S, hcl, hS0, kR⟩ : ∃ S : World → Prop, (∀ w1 w2, S w1 → Below w1.heap.size w1 w2 → S w2) ∧ S w.drew ∧ ∀ p : Clx S, DgAt p.v b 0 (s, x, y, z) ∧ Below w.heap.size w p.v :=
    ⟨fun w' => DgAt w' b 0 (s, x, y, z) ∧ Below w.heap.size w w', fun _ _ ⟨x0, x1⟩ hb => ⟨x0.below hb, Below.next x1 hb⟩, ⟨h.below (Below.refl _ _).drew, (Below.refl _ _).drew⟩, fun p => p.h⟩
  have m0 := fun p : Clx S => (kR p).1.1
  have m1 := fun p : Clx S => (kR p).1.2.1
  have m2 := fun p : Clx S => (kR p).1.2.2.1
  have m3 := fun p : Clx S => (kR p).1.2.2.2
  simp only [Nat.zero_add] at m0 m1 m2 m3
  have KR := Lib.hid kR
  have hnS : Nonempty (Clx S) := ⟨⟨_, hS0⟩⟩
  clear kR h zp zi z10 z1 z2 hok hv o1
  go_enter Tryd.func30, Tryd.ntmps30
  go_wp2_with (fail)
  refine wp_region_clx S (by kernel_rfl) (by kernel_rfl) hS0 ?_
  repeat (go_big_quiet_step (first
    | (go_at_call 47; exact Clx.call hcl _ (HT.out _))
    | (go_at_call 48; exact Clx.call hcl _ (HD.out _))))
  refine wpQuiet_nil ?_
  intro _ hw'
  obtain ⟨p, rfl⟩ := hw'
  have HB2 := Lib.hid (KR.out p).2
  go_wp2_with (fail)
  go_ret
  exact ⟨retS HE.out, HB2.out⟩
set_option maxRecDepth 100000 in
theorem sdangertext_any (s : ByteArray) (x y z : Int) (w : World) (hs : s.size ≤ maxLen) :
    Calls Tryd.prog 16 #[.agg #[.string s, .int .i64 x, .int .i64 y, .int .i64 z]] w fun e w' => e = .returned (.string (dgText (s, x, y, z))) ∧ Below w.heap.size w w' := by
  have HV := fun b w' h => sone_any b 0 (s, x, y, z) w' hs h
  have D0 := Lib.hid (DgAt.new (w := w) (T := 31) (s, x, y, z) w.heap.size rfl)
  simp only at D0
  cases hk : okD (s, x, y, z)
  · rw [hk] at HV
    have HV := Lib.hid HV
    rw [show dgText (s, x, y, z) = ⟨#[]⟩ by unfold dgText; rw [hk]; rfl]
    clear hk
    go_enter Tryd.func16, Tryd.ntmps16
    go_wp2_with (go_at_call 18; (refine (HV.out _ _ D0.out).mono ?_); rintro e w1 ⟨rfl, hb⟩; have AC := Lib.hid (Below.next (a := w) (by go_grown) hb); clear hb)
    go_ret
    exact ⟨rfl, AC.out⟩
  · rw [hk] at HV
    have HV := Lib.hid HV
    have HT := Lib.hid (fun b w' h => sdgtext_any b s x y z w' hk h)
    rw [show dgText (s, x, y, z) = threeT s (ptText x y) (itoaS z) by unfold dgText; rw [hk]; rfl]
    clear hk
    generalize threeT s (ptText x y) (itoaS z) = F at *
    go_enter Tryd.func16, Tryd.ntmps16
    go_wp2_with (first
      | (go_at_call 18; (refine (HV.out _ _ D0.out).mono ?_); rintro e w1 ⟨rfl, hb⟩; have D1 := Lib.hid (D0.out.below hb); have AC := Lib.hid (Below.next (a := w) (by go_grown) hb); clear hb)
      | (go_at_call 30; (refine (HT.out _ _ D1.out).mono ?_); rintro e w2 ⟨rfl, hb⟩; have AC2 := Lib.hid (Below.next AC.out hb); clear hb))
    go_ret
    exact ⟨rfl, AC2.out⟩
end Go.Proofs.YthccbipjmheoaaaDoor
