/- Texts of fog signals: the model's. -/
import Derived.Test.YtbfhnfoaipaljaaDoorFgtI
import Derived.Test.YtbfhnfoaipaljaaDoorFogS
import Derived.Test.YtbfhnfoaipaljaaDoorDec
namespace Go.Proofs.YtbfhnfoaipaljaaDoor
open Go.ChangeShapes Go.WideShapes Go.ChangeAt Go.RowKit Pm

theorem sdecT_any (n : Int) (w : World) (h0 : 0 ≤ n) (h1 : n ≤ 1000000) :
    Calls Tryd.prog 82 #[.int .i64 n] w fun e w' => e = .returned (.string (decT n)) ∧ Below w.heap.size w w' := sdec_any n w (by omega) (by omega)
set_option maxRecDepth 100000 in
theorem sseconds_any (n : Int) (w : World) (h0 : 0 ≤ n) (h1 : n ≤ 1000000) :
    Calls Tryd.prog 83 #[.int .i64 n] w fun e w' => e = .returned (.string (secT n)) ∧ Below w.heap.size w w' := by
  have HA := Lib.hid (fun w => sdecT_any (n / 10) w (by omega) (by omega))
  have sa := decT_size (n := n / 10) (by omega) (by omega)
  unfold secT
  by_cases hz : n % 10 = 0
  · rw [if_pos hz]
    have hzb : (n % 10 == 0) = true := by rw [beq_iff_eq]; exact hz
    generalize decT (n / 10) = a at *
    have q1 := fun w => run_string_add_sum (P := Tryd.prog) (w := w) a ⟨#[115]⟩ (by rw [one_size]; omega)
    go_enter Tryd.func83, Tryd.ntmps83
    go_wp2_with (go_at_call 82; (refine (HA.out _).mono ?_); rintro e w1 ⟨rfl, hb⟩)
    go_ret
    exact ⟨rfl, hb⟩
  · rw [if_neg hz]
    have hzb : (n % 10 == 0) = false := by rw [beq_eq_false_iff_ne]; exact hz
    have HC := Lib.hid (fun w => sdecT_any (n % 10) w (by omega) (by omega))
    have sb := decT_size (n := n % 10) (by omega) (by omega)
    generalize decT (n / 10) = a at *
    generalize decT (n % 10) = b at *
    have q1 := fun w => run_string_add_sum (P := Tryd.prog) (w := w) a ⟨#[46]⟩ (by rw [one_size]; omega)
    have q2 := fun w => run_string_add_sum (P := Tryd.prog) (w := w) (a ++ ⟨#[46]⟩) b (by simp only [ByteArray.size_append, one_size]; omega)
    have q3 := fun w => run_string_add_sum (P := Tryd.prog) (w := w) (a ++ ⟨#[46]⟩ ++ b) ⟨#[115]⟩ (by simp only [ByteArray.size_append, one_size]; omega)
    go_enter Tryd.func83, Tryd.ntmps83
    go_wp2_with (go_at_call 82; first
      | ((with_reducible refine (HA.out _).mono ?_); rintro e w1 ⟨rfl, hb⟩)
      | ((with_reducible refine (HC.out _).mono ?_); rintro e w2 ⟨rfl, hb2⟩))
    go_ret
    exact ⟨rfl, Below.next hb hb2⟩

set_option maxRecDepth 100000 in
set_option maxHeartbeats 1000000 in
theorem stext_any (Bf : Nat) (k b p q : Int) (w : World) (h : fogOk k b p q = true) (hC : FogCells w Bf k b p q) :
    Calls Tryd.prog 77 #[.pointer (some ⟨Bf, 0, none⟩)] w fun e w' => e = .returned (.string (fogT k b p q)) ∧ Below w.heap.size w w' := by
  obtain ⟨h1, ⟨p0, p1⟩, q0, q1⟩ := ok_parts h
  obtain ⟨hk4, b0, b1⟩ := shape_yes h1
  have hk := kind_four hk4
  have lb := least_bd h1
  have HS := Lib.hid (fun w => sseconds_any p w (by omega) (by omega))
  have HD := Lib.hid (fun w => sdecT_any q w (by omega) (by omega))
  have HBD := Lib.hid (fun w => sdecT_any b w (by omega) (by omega))
  have z1 := fogNm_size k
  have z2 := secT_size (n := p) (by omega) (by omega)
  have z3 := decT_size (n := q) (by omega) (by omega)
  have z4 := decT_size (n := b) (by omega) (by omega)
  have he : fogT k b p q = fogHead k b ++ ⟨#[32]⟩ ++ secT p ++ ⟨#[32]⟩ ++ decT q := rfl
  have hhd1 : 1 < b → fogHead k b = fogNm k ++ (⟨#[40]⟩ ++ decT b ++ ⟨#[41]⟩) := fun hb => by unfold fogHead; rw [if_pos hb]
  have hhd2 : ¬ 1 < b → fogHead k b = fogNm k := fun hb => by unfold fogHead; rw [if_neg hb]
  obtain ⟨se, e1⟩ : ∃ x, x = secT p := ⟨_, rfl⟩
  obtain ⟨qd, e2⟩ : ∃ x, x = decT q := ⟨_, rfl⟩
  obtain ⟨bd, e4⟩ : ∃ x, x = decT b := ⟨_, rfl⟩
  rw [← e1] at HS z2 he
  rw [← e2] at HD z3 he
  rw [← e4] at HBD z4 hhd1
  obtain ⟨hh, eh⟩ : ∃ x, x = fogHead k b := ⟨_, rfl⟩
  rw [← eh] at he hhd1 hhd2
  have HHD := Lib.hid (And.intro hhd1 hhd2)
  have HEE := Lib.hid he.symm
  clear e1 e2 e4 h h1 hk4 lb p0 p1 q0 q1 b0 he hhd1 hhd2 eh
  have hB0 : Below w.heap.size w w := Below.refl _ _
  have CC := Lib.hid hC
  obtain ⟨c0, c1, c2, c3⟩ := hC
  have hlt : Bf < w.heap.size := by
    rcases Nat.lt_or_ge Bf w.heap.size with h' | h'
    · exact h'
    · simp [World.cell?, Array.getElem?_eq_none h'] at c0
  have HNM := Lib.hid (show fogNm k = fogNm k from rfl)
  go_enter Tryd.func77, Tryd.ntmps77
  go_wp2_with (fail)
  go_cut [3] from 4 to 11 (fun t wx => t = .string (fogNm k) ∧ FogCells wx Bf k b p q ∧ Below w.heap.size w wx)
  case first =>
    clear HS HD HBD HHD HEE z1 z2 z3 z4
    rcases hk with rfl | rfl | rfl | rfl
    all_goals
      go_region_with (go_at_call 46; go_in)
      all_goals
        go_wp2_with (fail)
        go_meet
        exact ⟨by first | rfl | simp, ⟨by go_cell, by go_cell, by go_cell, by go_cell⟩, by go_grown⟩
  case rest =>
    clear c0 c1 c2 c3 hB0
    obtain ⟨rfl, ⟨c0, c1, c2, c3⟩, hac⟩ := hcut
    have AC := Lib.hid hac
    clear hac
    obtain ⟨nm, e3⟩ : ∃ x, x = fogNm k := ⟨_, rfl⟩
    rw [← e3] at HHD z1 ⊢
    clear e3 HNM CC hk hlt
    by_cases hb1 : 1 < b
    · have ehd := HHD.out.1 hb1
      have g1 := fun w => run_string_add_sum (P := Tryd.prog) (w := w) ⟨#[40]⟩ bd (by rw [one_size]; omega)
      have g2 := fun w => run_string_add_sum (P := Tryd.prog) (w := w) (⟨#[40]⟩ ++ bd) ⟨#[41]⟩ (by simp only [ByteArray.size_append, one_size]; omega)
      have g3 := fun w => run_string_add_sum (P := Tryd.prog) (w := w) nm (⟨#[40]⟩ ++ bd ++ ⟨#[41]⟩) (by simp only [ByteArray.size_append, one_size]; omega)
      have zh : hh.size ≤ 40 := by rw [ehd]; simp only [ByteArray.size_append, one_size]; omega
      rw [← ehd] at g3
      clear HHD ehd
      have q4 := fun w => run_string_add_sum (P := Tryd.prog) (w := w) hh ⟨#[32]⟩ (by rw [one_size]; omega)
      have q5 := fun w => run_string_add_sum (P := Tryd.prog) (w := w) (hh ++ ⟨#[32]⟩) se (by simp only [ByteArray.size_append, one_size]; omega)
      have q6 := fun w => run_string_add_sum (P := Tryd.prog) (w := w) (hh ++ ⟨#[32]⟩ ++ se) ⟨#[32]⟩ (by simp only [ByteArray.size_append, one_size]; omega)
      have q7 := fun w => run_string_add_sum (P := Tryd.prog) (w := w) (hh ++ ⟨#[32]⟩ ++ se ++ ⟨#[32]⟩) qd (by simp only [ByteArray.size_append, one_size]; omega)
      go_wp2_with (go_at_call 82; (with_reducible refine (HBD.out _).mono ?_); rintro e w3 ⟨rfl, hb⟩; refine Hid.out ?_)
      refine Lib.hid ?_
      replace c2 := cell_below c2 hb
      replace c3 := cell_below c3 hb
      replace AC := Lib.hid (Below.next AC.out hb)
      clear hb c0 c1
      go_wp2
      obtain ⟨S, hcl, hS0, k2, k3, kR, kB⟩ := clx2r (fun _ => True) c2 c3 (fun _ _ h hb => trivial) trivial AC.out
      have hne : Nonempty (Clx S) := ⟨⟨_, hS0⟩⟩
      clear c2 c3 AC
      refine wp_region_clx S (by kernel_rfl) (by kernel_rfl) hS0 ?_
      repeat (go_big_quiet_step (first
        | (go_at_call 83; exact Clx.call hcl _ (HS.out _))
        | (go_at_call 82; exact Clx.call hcl _ (HD.out _))))
      refine wpQuiet_nil ?_
      intro _ hw'
      obtain ⟨x, rfl⟩ := hw'
      go_wp2_with (fail)
      go_ret
      exact ⟨retS HEE.out, kB x⟩
    · have ehd := HHD.out.2 (by omega)
      have zh : hh.size ≤ 40 := by rw [ehd]; omega
      rw [← ehd]
      clear HHD ehd c0
      have q4 := fun w => run_string_add_sum (P := Tryd.prog) (w := w) hh ⟨#[32]⟩ (by rw [one_size]; omega)
      have q5 := fun w => run_string_add_sum (P := Tryd.prog) (w := w) (hh ++ ⟨#[32]⟩) se (by simp only [ByteArray.size_append, one_size]; omega)
      have q6 := fun w => run_string_add_sum (P := Tryd.prog) (w := w) (hh ++ ⟨#[32]⟩ ++ se) ⟨#[32]⟩ (by simp only [ByteArray.size_append, one_size]; omega)
      have q7 := fun w => run_string_add_sum (P := Tryd.prog) (w := w) (hh ++ ⟨#[32]⟩ ++ se ++ ⟨#[32]⟩) qd (by simp only [ByteArray.size_append, one_size]; omega)
      go_wp2
      obtain ⟨S, hcl, hS0, k2, k3, kR, kB⟩ := clx2r (fun _ => True) c2 c3 (fun _ _ h hb => trivial) trivial AC.out
      have hne : Nonempty (Clx S) := ⟨⟨_, hS0⟩⟩
      clear c2 c3 AC
      refine wp_region_clx S (by kernel_rfl) (by kernel_rfl) hS0 ?_
      repeat (go_big_quiet_step (first
        | (go_at_call 83; exact Clx.call hcl _ (HS.out _))
        | (go_at_call 82; exact Clx.call hcl _ (HD.out _))))
      refine wpQuiet_nil ?_
      intro _ hw'
      obtain ⟨x, rfl⟩ := hw'
      go_wp2_with (fail)
      go_ret
      exact ⟨retS HEE.out, kB x⟩

set_option maxRecDepth 100000 in
theorem sfogtext_any (k b p q : Int) (w : World) :
    Calls Tryd.prog 40 #[.agg #[.int .i64 k, .int .i64 b, .int .i64 p, .int .i64 q]] w fun e w' => e = .returned (.string (fogText k b p q)) ∧ Below w.heap.size w w' := by
  have HV := fun B w' h => sfogok_any B k b p q w' h
  unfold fogText
  cases h : fogOk k b p q
  · rw [h] at HV
    have HV := Lib.hid HV
    clear h
    go_enter Tryd.func40, Tryd.ntmps40
    go_wp2_with (go_at_call 48; (refine (HV.out _ _ ?_).mono ?_); (· exact ⟨by go_cell, by go_cell, by go_cell, by go_cell⟩); rintro e w1 ⟨rfl, hb⟩; have AC := Lib.hid (Below.next (a := w) (by go_grown) hb); clear hb)
    go_ret
    exact ⟨rfl, AC.out⟩
  · have HX := Lib.hid (fun B w' hC => stext_any B k b p q w' h hC)
    rw [h] at HV
    have HV := Lib.hid HV
    generalize fogT k b p q = tx at *
    clear h
    go_enter Tryd.func40, Tryd.ntmps40
    go_wp2_with (go_at_call 48; (refine (HV.out _ _ ?_).mono ?_); (· exact ⟨by go_cell, by go_cell, by go_cell, by go_cell⟩); rintro e w1 ⟨rfl, hb⟩; refine Hid.out ?_)
    refine Lib.hid ?_
    have c0 := cell_below (a := ⟨w.heap.size, 0, none⟩) (v := .int .i64 k) (by go_cell) hb
    have c1 := cell_below (a := ⟨w.heap.size, 1, none⟩) (v := .int .i64 b) (by go_cell) hb
    have c2 := cell_below (a := ⟨w.heap.size, 2, none⟩) (v := .int .i64 p) (by go_cell) hb
    have c3 := cell_below (a := ⟨w.heap.size, 3, none⟩) (v := .int .i64 q) (by go_cell) hb
    have AC := Lib.hid (Below.next (a := w) (by go_grown) hb)
    clear hb
    go_wp2_with (go_at_call 77; (refine (HX.out _ _ ⟨c0, c1, c2, c3⟩).mono ?_); rintro e w2 ⟨rfl, hb⟩; have AC2 := Lib.hid (Below.next AC.out hb); clear hb)
    go_ret
    exact ⟨rfl, AC2.out⟩

end Go.Proofs.YtbfhnfoaipaljaaDoor
