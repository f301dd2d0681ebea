/- Texts of fog signals: the program's. -/
import Derived.Test.YthheacebafleeacGreatDoorFgtM
import Derived.Test.YthheacebafleeacGreatDoorFogN
import Derived.Test.YthheacebafleeacGreatDoorLaidX
import Derived.Test.YthheacebafleeacGreatDoorClx
import Derived.Laws.IdiomStrings
namespace Go.Proofs.YthheacebafleeacGreatDoor
open Go.ChangeShapes Go.WideShapes Go.ChangeAt Go.RowKit Pm

theorem decT_any (n : Int) (w : World) (h0 : 0 ≤ n) (h1 : n ≤ 1000000) (hp : PowAt w) :
    Calls Tryz.prog 30 #[.int .i64 n] w fun e w' => e = .returned (.string (decT n)) ∧ Below w.heap.size w w' := decimal_any n w (by omega) (by omega) hp
set_option maxRecDepth 100000 in
theorem seconds_any (n : Int) (w : World) (h0 : 0 ≤ n) (h1 : n ≤ 1000000) (hp : PowAt w) :
    Calls Tryz.prog 31 #[.int .i64 n] w fun e w' => e = .returned (.string (secT n)) ∧ Below w.heap.size w w' := by
  have HP := Lib.hid hp
  have HA := Lib.hid (fun w h => decT_any (n / 10) w (by omega) (by omega) h)
  have sa := decT_size (n := n / 10) (by omega) (by omega)
  unfold secT
  by_cases hz : n % 10 = 0
  · rw [if_pos hz]
    have hzb : (n % 10 == 0) = true := by rw [beq_iff_eq]; exact hz
    generalize decT (n / 10) = a at *
    have q1 := fun w => run_string_add_sum (P := Tryz.prog) (w := w) a ⟨#[115]⟩ (by rw [one_size]; omega)
    clear hp
    go_enter Tryz.func31, Tryz.ntmps31
    go_wp2_with (go_at_call 30; (refine (HA.out _ HP.out).mono ?_); rintro e w1 ⟨rfl, hb⟩)
    go_ret
    exact ⟨rfl, hb⟩
  · rw [if_neg hz]
    have hzb : (n % 10 == 0) = false := by rw [beq_eq_false_iff_ne]; exact hz
    have HC := Lib.hid (fun w h => decT_any (n % 10) w (by omega) (by omega) h)
    have sb := decT_size (n := n % 10) (by omega) (by omega)
    generalize decT (n / 10) = a at *
    generalize decT (n % 10) = b at *
    have HE := Lib.hid (show a ++ (⟨#[46]⟩ ++ b) ++ ⟨#[115]⟩ = a ++ ⟨#[46]⟩ ++ b ++ ⟨#[115]⟩ by simp only [ByteArray.append_assoc])
    have q1 := fun w => run_string_add_sum (P := Tryz.prog) (w := w) ⟨#[46]⟩ b (by rw [one_size]; omega)
    have q2 := fun w => run_string_add_sum (P := Tryz.prog) (w := w) a (⟨#[46]⟩ ++ b) (by simp only [ByteArray.size_append, one_size]; omega)
    have q3 := fun w => run_string_add_sum (P := Tryz.prog) (w := w) (a ++ (⟨#[46]⟩ ++ b)) ⟨#[115]⟩ (by simp only [ByteArray.size_append, one_size]; omega)
    clear hp
    go_enter Tryz.func31, Tryz.ntmps31
    go_wp2_with (go_at_call 30; first
      | ((with_reducible refine (HA.out _ HP.out).mono ?_); rintro e w1 ⟨rfl, hb⟩)
      | ((with_reducible refine (HC.out _ (HP.out.below hb)).mono ?_); rintro e w2 ⟨rfl, hb2⟩))
    go_ret
    exact ⟨retS HE.out, Below.next hb hb2⟩

theorem clx2r {w0 w : World} {a0 a1 : Addr} {v0 v1 : Value} (R : World → Prop) (h0 : w.cell? a0 = some v0) (h1 : w.cell? a1 = some v1) (hR : ∀ w1 w2, R w1 → Below w1.heap.size w1 w2 → R w2) (hw : R w) (hB : Below w0.heap.size w0 w) :
    ∃ S : World → Prop, (∀ w1 w2, S w1 → Below w1.heap.size w1 w2 → S w2) ∧ S w.drew ∧ (∀ p : Clx S, p.v.cell? a0 = some v0) ∧ (∀ p : Clx S, p.v.cell? a1 = some v1) ∧ (∀ p : Clx S, R p.v) ∧ ∀ p : Clx S, Below w0.heap.size w0 p.v :=
  ⟨fun w' => w'.cell? a0 = some v0 ∧ w'.cell? a1 = some v1 ∧ R w' ∧ Below w0.heap.size w0 w', fun _ _ ⟨g0, g1, g2, g3⟩ hb => ⟨cell_below g0 hb, cell_below g1 hb, hR _ _ g2 hb, Below.next g3 hb⟩,
    ⟨h0, h1, hR _ _ hw (Below.refl _ _).drew, hB.drew⟩, fun p => p.h.1, fun p => p.h.2.1, fun p => p.h.2.2.1, fun p => p.h.2.2.2⟩

set_option maxRecDepth 100000 in
set_option maxHeartbeats 1000000 in
theorem fogtext_one (k b p q : Int) (ea ep eq : Addr) (w : World) (hF : FogsAt w) (hE : FogErrs ea ep eq w) (hp : PowAt w) (h : fogOk k b p q = true) (hb1 : ¬ 1 < b) :
    Calls Tryz.prog 10 #[fogV k b p q] w fun e w' => e = .returned (.string (fogT k b p q)) ∧ Below w.heap.size w w' := by
    have HV := Lib.hid (fun w' (hb : Below w.heap.size w w') => h ▸ validfog_any k b p q ea ep eq w' (hF.below hb) (hE.below hb))
    have HN := Lib.hid (fun w' (hb : Below w.heap.size w w') => fogname_any k w' (hF.below hb))
    have HPW := Lib.hid hp
    obtain ⟨h1, ⟨p0, p1⟩, q0, q1⟩ := ok_parts h
    obtain ⟨_, b0, b1⟩ := shape_yes h1
    have lb := least_bd h1
    have HS := Lib.hid (fun w h => seconds_any p w (by omega) (by omega) h)
    have HD := Lib.hid (fun w h => decT_any q w (by omega) (by omega) h)
    have HBD := Lib.hid (fun w h => decT_any b w (by omega) (by omega) h)
    have z1 := fogNm_size k
    have z2 := secT_size (n := p) (by omega) (by omega)
    have z3 := decT_size (n := q) (by omega) (by omega)
    have z4 := decT_size (n := b) (by omega) (by omega)
    have hhd : fogHead k b = fogNm k := by unfold fogHead; rw [if_neg hb1]
    have he : fogT k b p q = fogHead k b ++ ⟨#[32]⟩ ++ secT p ++ ⟨#[32]⟩ ++ decT q := rfl
    rw [hhd] at he
    obtain ⟨se, e1⟩ : ∃ x, x = secT p := ⟨_, rfl⟩
    obtain ⟨qd, e2⟩ : ∃ x, x = decT q := ⟨_, rfl⟩
    obtain ⟨nm, e3⟩ : ∃ x, x = fogNm k := ⟨_, rfl⟩
    obtain ⟨bd, e4⟩ : ∃ x, x = decT b := ⟨_, rfl⟩
    rw [← e1] at HS z2 he
    rw [← e2] at HD z3 he
    rw [← e3] at HN z1 he
    rw [← e4] at HBD z4
    clear hhd e1 e2 e3 e4 h h1 hF hE hp lb p0 p1 q0 q1 b0
    obtain ⟨hd, ehd⟩ : ∃ x, x = nm := ⟨_, rfl⟩
    rw [← ehd] at he z1 HN
    have zh : hd.size ≤ 40 := by omega
    clear ehd nm
    have q4 := fun w => run_string_add_sum (P := Tryz.prog) (w := w) hd ⟨#[32]⟩ (by rw [one_size]; omega)
    have q5 := fun w => run_string_add_sum (P := Tryz.prog) (w := w) (hd ++ ⟨#[32]⟩) se (by simp only [ByteArray.size_append, one_size]; omega)
    have q6 := fun w => run_string_add_sum (P := Tryz.prog) (w := w) (hd ++ ⟨#[32]⟩ ++ se) ⟨#[32]⟩ (by simp only [ByteArray.size_append, one_size]; omega)
    have q7 := fun w => run_string_add_sum (P := Tryz.prog) (w := w) (hd ++ ⟨#[32]⟩ ++ se ++ ⟨#[32]⟩) qd (by simp only [ByteArray.size_append, one_size]; omega)
    have HE := Lib.hid he.symm
    clear he
    go_enter Tryz.func10, Tryz.ntmps10
    go_wp2_with (go_at_call 22; (refine (HV.out _ (by go_grown)).mono ?_); rintro e w1 ⟨rfl, hb⟩; refine Hid.out ?_)
    refine Lib.hid ?_
    have c0 := cell_below (a := ⟨w.heap.size, 0, none⟩) (v := .int .i64 k) (by go_cell) hb
    have c1 := cell_below (a := ⟨w.heap.size, 1, none⟩) (v := .int .i64 b) (by go_cell) hb
    have c2 := cell_below (a := ⟨w.heap.size, 2, none⟩) (v := .int .i64 p) (by go_cell) hb
    have c3 := cell_below (a := ⟨w.heap.size, 3, none⟩) (v := .int .i64 q) (by go_cell) hb
    have AC := Lib.hid (Below.next (a := w) (by go_grown) hb)
    clear hb
    go_wp2_with (go_at_call 29; (refine (HN.out _ AC.out).mono ?_); rintro e w2 ⟨rfl, hb⟩; refine Hid.out ?_)
    refine Lib.hid ?_
    replace c0 := cell_below c0 hb
    replace c1 := cell_below c1 hb
    replace c2 := cell_below c2 hb
    replace c3 := cell_below c3 hb
    replace AC := Lib.hid (Below.next AC.out hb)
    clear hb
    go_wp2
    obtain ⟨S, hcl, hS0, k2, k3, kR, kB⟩ := clx2r PowAt c2 c3 (fun _ _ h hb => PowAt.below h hb) (HPW.out.below AC.out) AC.out
    have hne : Nonempty (Clx S) := ⟨⟨_, hS0⟩⟩
    clear c0 c1 c2 c3 AC
    refine wp_region_clx S (by kernel_rfl) (by kernel_rfl) hS0 ?_
    repeat (go_big_quiet_step (first
      | (go_at_call 31; exact Clx.call hcl _ (HS.out _ (kR _)))
      | (go_at_call 30; exact Clx.call hcl _ (HD.out _ (kR _)))))
    refine wpQuiet_nil ?_
    intro _ hw'
    obtain ⟨x, rfl⟩ := hw'
    go_wp2_with (fail)
    go_ret
    exact ⟨retS HE.out, kB x⟩

set_option maxRecDepth 100000 in
set_option maxHeartbeats 1000000 in
theorem fogtext_many (k b p q : Int) (ea ep eq : Addr) (w : World) (hF : FogsAt w) (hE : FogErrs ea ep eq w) (hp : PowAt w) (h : fogOk k b p q = true) (hb1 : 1 < b) :
    Calls Tryz.prog 10 #[fogV k b p q] w fun e w' => e = .returned (.string (fogT k b p q)) ∧ Below w.heap.size w w' := by
    have HV := Lib.hid (fun w' (hb : Below w.heap.size w w') => h ▸ validfog_any k b p q ea ep eq w' (hF.below hb) (hE.below hb))
    have HN := Lib.hid (fun w' (hb : Below w.heap.size w w') => fogname_any k w' (hF.below hb))
    have HPW := Lib.hid hp
    obtain ⟨h1, ⟨p0, p1⟩, q0, q1⟩ := ok_parts h
    obtain ⟨_, b0, b1⟩ := shape_yes h1
    have lb := least_bd h1
    have HS := Lib.hid (fun w h => seconds_any p w (by omega) (by omega) h)
    have HD := Lib.hid (fun w h => decT_any q w (by omega) (by omega) h)
    have HBD := Lib.hid (fun w h => decT_any b w (by omega) (by omega) h)
    have z1 := fogNm_size k
    have z2 := secT_size (n := p) (by omega) (by omega)
    have z3 := decT_size (n := q) (by omega) (by omega)
    have z4 := decT_size (n := b) (by omega) (by omega)
    have hhd : fogHead k b = fogNm k ++ (⟨#[40]⟩ ++ decT b ++ ⟨#[41]⟩) := by unfold fogHead; rw [if_pos hb1]
    have he : fogT k b p q = fogHead k b ++ ⟨#[32]⟩ ++ secT p ++ ⟨#[32]⟩ ++ decT q := rfl
    rw [hhd] at he
    obtain ⟨se, e1⟩ : ∃ x, x = secT p := ⟨_, rfl⟩
    obtain ⟨qd, e2⟩ : ∃ x, x = decT q := ⟨_, rfl⟩
    obtain ⟨nm, e3⟩ : ∃ x, x = fogNm k := ⟨_, rfl⟩
    obtain ⟨bd, e4⟩ : ∃ x, x = decT b := ⟨_, rfl⟩
    rw [← e1] at HS z2 he
    rw [← e2] at HD z3 he
    rw [← e3] at HN z1 he
    rw [← e4] at HBD z4 he
    clear hhd e1 e2 e3 e4 h h1 hF hE hp lb p0 p1 q0 q1 b0
    have g1 := fun w => run_string_add_sum (P := Tryz.prog) (w := w) ⟨#[40]⟩ bd (by rw [one_size]; omega)
    have g2 := fun w => run_string_add_sum (P := Tryz.prog) (w := w) (⟨#[40]⟩ ++ bd) ⟨#[41]⟩ (by simp only [ByteArray.size_append, one_size]; omega)
    have g3 := fun w => run_string_add_sum (P := Tryz.prog) (w := w) nm (⟨#[40]⟩ ++ bd ++ ⟨#[41]⟩) (by simp only [ByteArray.size_append, one_size]; omega)
    obtain ⟨hd, ehd⟩ : ∃ x, x = nm ++ (⟨#[40]⟩ ++ bd ++ ⟨#[41]⟩) := ⟨_, rfl⟩
    have zh : hd.size ≤ 40 := by rw [ehd]; simp only [ByteArray.size_append, one_size]; omega
    rw [← ehd] at he g3
    have q4 := fun w => run_string_add_sum (P := Tryz.prog) (w := w) hd ⟨#[32]⟩ (by rw [one_size]; omega)
    have q5 := fun w => run_string_add_sum (P := Tryz.prog) (w := w) (hd ++ ⟨#[32]⟩) se (by simp only [ByteArray.size_append, one_size]; omega)
    have q6 := fun w => run_string_add_sum (P := Tryz.prog) (w := w) (hd ++ ⟨#[32]⟩ ++ se) ⟨#[32]⟩ (by simp only [ByteArray.size_append, one_size]; omega)
    have q7 := fun w => run_string_add_sum (P := Tryz.prog) (w := w) (hd ++ ⟨#[32]⟩ ++ se ++ ⟨#[32]⟩) qd (by simp only [ByteArray.size_append, one_size]; omega)
    have EHD := Lib.hid ehd
    clear ehd
    have HE := Lib.hid he.symm
    clear he
    go_enter Tryz.func10, Tryz.ntmps10
    go_wp2_with (go_at_call 22; (refine (HV.out _ (by go_grown)).mono ?_); rintro e w1 ⟨rfl, hb⟩; refine Hid.out ?_)
    refine Lib.hid ?_
    have c0 := cell_below (a := ⟨w.heap.size, 0, none⟩) (v := .int .i64 k) (by go_cell) hb
    have c1 := cell_below (a := ⟨w.heap.size, 1, none⟩) (v := .int .i64 b) (by go_cell) hb
    have c2 := cell_below (a := ⟨w.heap.size, 2, none⟩) (v := .int .i64 p) (by go_cell) hb
    have c3 := cell_below (a := ⟨w.heap.size, 3, none⟩) (v := .int .i64 q) (by go_cell) hb
    have AC := Lib.hid (Below.next (a := w) (by go_grown) hb)
    clear hb
    go_wp2_with (go_at_call 29; (refine (HN.out _ AC.out).mono ?_); rintro e w2 ⟨rfl, hb⟩; refine Hid.out ?_)
    refine Lib.hid ?_
    replace c0 := cell_below c0 hb
    replace c1 := cell_below c1 hb
    replace c2 := cell_below c2 hb
    replace c3 := cell_below c3 hb
    replace AC := Lib.hid (Below.next AC.out hb)
    clear hb
    go_wp2_with (go_at_call 30; (with_reducible refine (HBD.out _ (HPW.out.below AC.out)).mono ?_); rintro e w3 ⟨rfl, hb⟩; refine Hid.out ?_)
    refine Lib.hid ?_
    replace c0 := cell_below c0 hb
    replace c1 := cell_below c1 hb
    replace c2 := cell_below c2 hb
    replace c3 := cell_below c3 hb
    replace AC := Lib.hid (Below.next AC.out hb)
    clear hb
    go_wp2
    obtain ⟨S, hcl, hS0, k2, k3, kR, kB⟩ := clx2r PowAt c2 c3 (fun _ _ h hb => PowAt.below h hb) (HPW.out.below AC.out) AC.out
    have hne : Nonempty (Clx S) := ⟨⟨_, hS0⟩⟩
    clear c0 c1 c2 c3 AC
    refine wp_region_clx S (by kernel_rfl) (by kernel_rfl) hS0 ?_
    repeat (go_big_quiet_step (first
      | (go_at_call 31; exact Clx.call hcl _ (HS.out _ (kR _)))
      | (go_at_call 30; exact Clx.call hcl _ (HD.out _ (kR _)))))
    refine wpQuiet_nil ?_
    intro _ hw'
    obtain ⟨x, rfl⟩ := hw'
    go_wp2_with (fail)
    go_ret
    exact ⟨retS HE.out, kB x⟩

theorem fogtext_any (k b p q : Int) (ea ep eq : Addr) (w : World) (hF : FogsAt w) (hE : FogErrs ea ep eq w) (hp : PowAt w) :
    Calls Tryz.prog 10 #[fogV k b p q] w fun e w' => e = .returned (.string (fogText k b p q)) ∧ Below w.heap.size w w' := by
  unfold fogText
  cases h : fogOk k b p q
  · have HV := Lib.hid (fun w' (hb : Below w.heap.size w w') => h ▸ validfog_any k b p q ea ep eq w' (hF.below hb) (hE.below hb))
    clear h hF hE hp
    go_enter Tryz.func10, Tryz.ntmps10
    go_wp2_with (go_at_call 22; (refine (HV.out _ (by go_grown)).mono ?_); rintro e w1 ⟨rfl, hb⟩; have AC := Lib.hid (Below.next (a := w) (by go_grown) hb); clear hb)
    go_ret
    exact ⟨rfl, AC.out⟩
  · by_cases hb : 1 < b
    · exact fogtext_many k b p q ea ep eq w hF hE hp h hb
    · exact fogtext_one k b p q ea ep eq w hF hE hp h hb

end Go.Proofs.YthheacebafleeacGreatDoor
