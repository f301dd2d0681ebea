/- Names, lengths and least periods of fog signals: the program's and the model's. -/
import Derived.Test.YtbfhnfoaipaljaaDoorFogW
import Derived.Test.YtbfhnfoaipaljaaDoorFogS
import Derived.Test.YtbfhnfoaipaljaaDoorClx
import Derived.Test.YtbfhnfoaipaljaaDoorErrIs
namespace Go.Proofs.YtbfhnfoaipaljaaDoor
open Go.ChangeShapes Go.WideShapes Go.ChangeAt Go.RowKit Pm

set_option maxRecDepth 100000 in
theorem fogname_any (k : Int) (w : World) (hF : FogsAt w) :
    Calls Tryd.prog 16 #[.int .i64 k] w fun e w' => e = .returned (.string (fogNm k)) ∧ Below w.heap.size w w' := by
  have H := Lib.hid (fogrow_any k w hF)
  generalize fogNm k = s at *
  generalize fogLen k = f at *
  have hf0 : ∀ w, (Instr.field 58 (.agg #[.string s, .int .i64 f]) 0).run Tryd.prog w = .ok (.string s) w := fun _ => by kernel_rfl
  clear hF
  go_enter Tryd.func16, Tryd.ntmps16
  go_wp2_with (go_at_call 47; refine H.out.mono ?_; rintro e w' ⟨rfl, hb⟩)
  go_ret
  exact ⟨rfl, hb⟩
set_option maxRecDepth 100000 in
theorem blastlen_any (k : Int) (w : World) (hF : FogsAt w) :
    Calls Tryd.prog 21 #[.int .i64 k] w fun e w' => e = .returned (.tuple #[.int .i64 (fogLen k), .int .i64 (if fogLen k = 0 then 2 else 0)]) ∧ Below w.heap.size w w' := by
  have H := Lib.hid (fogrow_any k w hF)
  generalize fogNm k = s at *
  generalize fogLen k = f at *
  have hf1 : ∀ w, (Instr.field 58 (.agg #[.string s, .int .i64 f]) 1).run Tryd.prog w = .ok (.int .i64 f) w := fun _ => by kernel_rfl
  clear hF
  by_cases h0 : f = 0
  · subst h0
    go_enter Tryd.func21, Tryd.ntmps21
    go_wp2_with (go_at_call 47; refine H.out.mono ?_; rintro e w' ⟨rfl, hb⟩)
    go_ret2
    exact ⟨rfl, hb⟩
  · rw [if_neg h0]
    have hb0 : (f == 0) = false := by rw [beq_eq_false_iff_ne]; exact h0
    clear h0
    go_enter Tryd.func21, Tryd.ntmps21
    go_wp2_with (go_at_call 47; refine H.out.mono ?_; rintro e w' ⟨rfl, hb⟩)
    go_ret2
    exact ⟨rfl, hb⟩
theorem sblastlen_any (k : Int) (w : World) :
    Calls Tryd.prog 20 #[.int .i64 k] w fun e w' => e = .returned (.tuple #[.int .i64 (fogLen k), .int .i64 (if fogLen k = 0 then 2 else 0)]) ∧ Below w.heap.size w w' := by
  have HK := fun w => sfkind_any k w
  cases h : inB 1 4 [k]
  · rw [fogLen_out h]
    rw [h] at HK
    have HK := Lib.hid HK
    clear h
    go_enter Tryd.func20, Tryd.ntmps20
    go_wp2_with (go_at_call 45; refine (HK.out _).mono ?_; rintro e w' ⟨rfl, rfl⟩)
    go_ret2
    exact ⟨rfl, Below.refl _ _⟩
  · have hin := fogLen_in h
    have HL := Lib.hid (fun w => sfoglen_any k w h)
    rw [h] at HK
    have HK := Lib.hid HK
    rw [if_neg (by omega)]
    generalize fogLen k = f at *
    clear h hin
    go_enter Tryd.func20, Tryd.ntmps20
    go_wp2_with (first | (go_at_call 45; refine (HK.out _).mono ?_; rintro e w' ⟨rfl, rfl⟩) | (go_at_call 51; refine (HL.out _).mono ?_; rintro e w' ⟨rfl, hb⟩))
    go_ret2
    exact ⟨rfl, hb⟩
theorem sleastfog_any (k b p q : Int) (w : World) :
    Calls Tryd.prog 22 #[.agg #[.int .i64 k, .int .i64 b, .int .i64 p, .int .i64 q]] w fun e w' => e = .returned (.tuple #[.int .i64 (if fogShape k b then fogLeast k b else 0), .int .i64 (if fogShape k b then 0 else 2)]) ∧ Below w.heap.size w w' := by
  have HS := fun w c0 c1 => sfogshape_any w.heap.size k b w c0 c1
  have HS := fun w' B c0 c1 => sfogshape_any B k b w' c0 c1
  cases h : fogShape k b
  · rw [h] at HS
    have HS := Lib.hid HS
    clear h
    go_enter Tryd.func22, Tryd.ntmps22
    go_wp2_with (go_at_call 52; refine (HS.out _ _ ?_ ?_).mono ?_; (· simp); (· simp); rintro e w' ⟨rfl, rfl⟩)
    go_ret2
    exact ⟨rfl, by go_grown⟩
  · have HL := Lib.hid (fun w' B c0 c1 => sfogleast_any B k b w' c0 c1 h)
    rw [h] at HS
    have HS := Lib.hid HS
    rw [if_pos rfl, if_pos rfl]
    generalize fogLeast k b = l at *
    clear h
    go_enter Tryd.func22, Tryd.ntmps22
    go_wp2_with (first | (go_at_call 52; refine (HS.out _ _ ?_ ?_).mono ?_; (· simp); (· simp); rintro e w' ⟨rfl, rfl⟩) | (go_at_call 53; refine (HL.out _ _ ?_ ?_).mono ?_; (· simp); (· simp); rintro e w' ⟨rfl, hb⟩; have AC := Lib.hid (Below.next (a := w) (by go_grown) hb); clear hb))
    go_ret2
    exact ⟨rfl, AC.out⟩
theorem faultV_cases (k b p q : Int) (ea ep eq : Addr) : (fogShape k b = false ∧ faultV k b p q ea ep eq = errV ea) ∨ (fogShape k b = true ∧ (faultV k b p q ea ep eq = errV ep ∨ faultV k b p q ea ep eq = errV eq ∨ faultV k b p q ea ep eq = .nilIface)) := by
  unfold faultV
  cases fogShape k b
  · exact .inl ⟨rfl, rfl⟩
  · refine .inr ⟨rfl, ?_⟩
    cases fogPer k b p
    · exact .inl rfl
    · cases fogPow q
      · exact .inr (.inl rfl)
      · exact .inr (.inr rfl)
/-- Worlds with a fog signal and its row, and the errors. -/
theorem clxS {w0 w : World} {B : Nat} {k b p q z : Int} {s : ByteArray} {ea ep eq : Addr} (h0 : w.cell? ⟨B, 0, none⟩ = some (.int .i64 k)) (h1 : w.cell? ⟨B, 1, none⟩ = some (.int .i64 b)) (h2 : w.cell? ⟨B, 2, none⟩ = some (.int .i64 p)) (h3 : w.cell? ⟨B, 3, none⟩ = some (.int .i64 q)) (h4 : w.cell? ⟨B, 4, none⟩ = some (.string s)) (h5 : w.cell? ⟨B, 5, none⟩ = some (.int .i64 z)) (hE : FogErrs ea ep eq w) (hB : Below w0.heap.size w0 w) :
    ∃ S : World → Prop, (∀ w1 w2, S w1 → Below w1.heap.size w1 w2 → S w2) ∧ S w.drew ∧ (∀ x : Clx S, x.v.cell? ⟨B, 0, none⟩ = some (.int .i64 k)) ∧ (∀ x : Clx S, x.v.cell? ⟨B, 1, none⟩ = some (.int .i64 b)) ∧ (∀ x : Clx S, x.v.cell? ⟨B, 2, none⟩ = some (.int .i64 p)) ∧ (∀ x : Clx S, x.v.cell? ⟨B, 3, none⟩ = some (.int .i64 q)) ∧ (∀ x : Clx S, x.v.cell? ⟨B, 4, none⟩ = some (.string s)) ∧ (∀ x : Clx S, x.v.cell? ⟨B, 5, none⟩ = some (.int .i64 z)) ∧
      (∀ x : Clx S, x.v.cell? ⟨0, 0, none⟩ = some (errV ea)) ∧ (∀ x : Clx S, FogErrs ea ep eq x.v) ∧ ∀ x : Clx S, Below w0.heap.size w0 x.v :=
  ⟨fun w => w.cell? ⟨B, 0, none⟩ = some (.int .i64 k) ∧ w.cell? ⟨B, 1, none⟩ = some (.int .i64 b) ∧ w.cell? ⟨B, 2, none⟩ = some (.int .i64 p) ∧ w.cell? ⟨B, 3, none⟩ = some (.int .i64 q) ∧ w.cell? ⟨B, 4, none⟩ = some (.string s) ∧ w.cell? ⟨B, 5, none⟩ = some (.int .i64 z) ∧ FogErrs ea ep eq w ∧ Below w0.heap.size w0 w,
    fun _ _ ⟨a0, a1, a2, a3, a4, a5, a6, a7⟩ hb => ⟨cell_below a0 hb, cell_below a1 hb, cell_below a2 hb, cell_below a3 hb, cell_below a4 hb, cell_below a5 hb, a6.below hb, Below.next a7 hb⟩,
    ⟨h0, h1, h2, h3, h4, h5, hE.below ((Below.refl _ _).drew), hB.drew⟩, fun x => x.h.1, fun x => x.h.2.1, fun x => x.h.2.2.1, fun x => x.h.2.2.2.1, fun x => x.h.2.2.2.2.1, fun x => x.h.2.2.2.2.2.1, fun x => x.h.2.2.2.2.2.2.1.1, fun x => x.h.2.2.2.2.2.2.1, fun x => x.h.2.2.2.2.2.2.2⟩
set_option maxRecDepth 100000 in
set_option maxHeartbeats 1000000 in
theorem leastfog_any (k b p q : Int) (ea ep eq : Addr) (w : World) (hF : FogsAt w) (hE : FogErrs ea ep eq w) :
    Calls Tryd.prog 23 #[.agg #[.int .i64 k, .int .i64 b, .int .i64 p, .int .i64 q]] w fun e w' => e = .returned (.tuple #[.int .i64 (if fogShape k b then fogLeast k b else 0), .int .i64 (if fogShape k b then 0 else 2)]) ∧ Below w.heap.size w w' := by
  have HS := Lib.hid (fun w' (h : Below w.heap.size w w') => sounding_any k b p q w' (hF.below h))
  have HX := fun w' (h : FogErrs ea ep eq w') => fault_any k b p q ea ep eq w' h
  have HE := Lib.hid (fun w' (h : Below w.heap.size w w') => hE.below h)
  obtain ⟨z0, z1⟩ := fogLen_bd k
  have hc := faultV_cases k b p q ea ep eq
  have HL := fun w (b0 : 1 ≤ b) (b1 : b ≤ 6) => least_any2 k b p q (fogNm k) (fogLen k) w b0 b1 z0 z1
  rw [step_least] at HL
  generalize faultV k b p q ea ep eq = v at *
  generalize fogLeast k b = l at *
  generalize fogNm k = s at *
  generalize fogLen k = z at *
  obtain ⟨r, hr⟩ : ∃ r, r = fogShape k b := ⟨_, rfl⟩
  have hrb : r = true → 1 ≤ b ∧ b ≤ 6 := fun h => (shape_yes (h ▸ hr.symm : fogShape k b = true)).2
  rw [← hr] at hc ⊢
  have HI : (v = errV ea → ∀ w, Calls Tryd.prog 54 #[v, errV ea] w fun e w' => e = .returned (.bool true) ∧ w = w') := fun h w => by rw [h]; exact is_same ea w
  have HJ : (v = errV ep ∨ v = errV eq ∨ v = .nilIface → ∀ w, FogErrs ea ep eq w → Calls Tryd.prog 54 #[v, errV ea] w fun e w' => e = .returned (.bool false) ∧ w = w') := fun h w hw => by
    obtain ⟨_, _, _, n1, n2, g1, g2, g3⟩ := hw
    rcases h with h | h | h <;> rw [h]
    · exact is_other ep ea w n1 g2 g1
    · exact is_other eq ea w n2 g3 g1
    · exact is_nil ea w
  have HX := Lib.hid HX
  clear hF hE z0 z1 hr
  rcases hc with ⟨rfl, hv⟩ | ⟨rfl, hv⟩
  · have HI := Lib.hid (HI hv)
    clear HJ HL hrb hv
    go_enter Tryd.func23, Tryd.ntmps23
    go_wp2_with (go_at_call 49; (refine (HS.out _ (by go_grown)).mono ?_); rintro e w1 ⟨rfl, hb⟩; refine Hid.out ?_)
    refine Lib.hid ?_
    have AC := Lib.hid (Below.next (a := w) (by go_grown) hb)
    clear hb
    go_wp2
    have b1' := AC.out.alloc AC.out.size (.cells #[.int .i64 k, .int .i64 b, .int .i64 p, .int .i64 q, .string s, .int .i64 z] 65)
    obtain ⟨S, hcl, hS0, k0, k1, k2, k3, k4, k5, kv, kE, kB⟩ := clxS (B := w1.heap.size) (k := k) (b := b) (p := p) (q := q) (s := s) (z := z) (w := w1.alloc (.cells #[.int .i64 k, .int .i64 b, .int .i64 p, .int .i64 q, .string s, .int .i64 z] 65)) (by simp) (by simp) (by simp) (by simp) (by simp) (by simp) (HE.out _ b1') b1'
    have hne : Nonempty (Clx S) := ⟨⟨_, hS0⟩⟩
    clear b1' AC HS HE
    refine wp_region_clx S (by kernel_rfl) (by kernel_rfl) hS0 ?_
    repeat (go_big_quiet_step (first
      | (go_at_call 50; exact Clx.call hcl _ (HX.out _ (kE _)))
      | (go_at_call 54; exact Clx.call hcl _ (below_eq (HI.out _))))) 
    refine wpQuiet_nil ?_
    intro _ hw'
    obtain ⟨x, rfl⟩ := hw'
    go_wp2_with (fail)
    go_ret2
    exact ⟨rfl, kB x⟩
  · have HJ := Lib.hid (HJ hv)
    obtain ⟨b0, b1⟩ := hrb rfl
    have HL := Lib.hid (fun w => HL w b0 b1)
    clear HI hrb hv
    go_enter Tryd.func23, Tryd.ntmps23
    go_wp2_with (go_at_call 49; (refine (HS.out _ (by go_grown)).mono ?_); rintro e w1 ⟨rfl, hb⟩; refine Hid.out ?_)
    refine Lib.hid ?_
    have AC := Lib.hid (Below.next (a := w) (by go_grown) hb)
    clear hb
    go_wp2
    have b1' := AC.out.alloc AC.out.size (.cells #[.int .i64 k, .int .i64 b, .int .i64 p, .int .i64 q, .string s, .int .i64 z] 65)
    obtain ⟨S, hcl, hS0, k0, k1, k2, k3, k4, k5, kv, kE, kB⟩ := clxS (B := w1.heap.size) (k := k) (b := b) (p := p) (q := q) (s := s) (z := z) (w := w1.alloc (.cells #[.int .i64 k, .int .i64 b, .int .i64 p, .int .i64 q, .string s, .int .i64 z] 65)) (by simp) (by simp) (by simp) (by simp) (by simp) (by simp) (HE.out _ b1') b1'
    have hne : Nonempty (Clx S) := ⟨⟨_, hS0⟩⟩
    clear b1' AC HS HE
    refine wp_region_clx S (by kernel_rfl) (by kernel_rfl) hS0 ?_
    repeat (go_big_quiet_step (first
      | (go_at_call 50; exact Clx.call hcl _ (HX.out _ (kE _)))
      | (go_at_call 54; exact Clx.call hcl _ (below_eq (HJ.out _ (kE _)))))) 
    refine wpQuiet_nil ?_
    intro _ hw'
    obtain ⟨x, rfl⟩ := hw'
    have C0 := k0 x
    have C1 := k1 x
    have C2 := k2 x
    have C3 := k3 x
    have C4 := k4 x
    have C5 := k5 x
    go_wp2_with (go_at_call 55; (refine (HL.out _).mono ?_); rintro e w2 ⟨rfl, hb⟩; have AC := Lib.hid (Below.next (kB x) hb); clear hb)
    go_ret2
    exact ⟨rfl, AC.out⟩
end Go.Proofs.YtbfhnfoaipaljaaDoor
