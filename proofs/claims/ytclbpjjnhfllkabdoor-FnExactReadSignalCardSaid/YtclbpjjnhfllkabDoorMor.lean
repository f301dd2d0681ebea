/- The signs of a letter: the model's and the program's. -/
import Derived.Test.YtclbpjjnhfllkabDoorMorM
import Derived.Test.YtclbpjjnhfllkabDoorOwnK
import Derived.Test.YtclbpjjnhfllkabDoorWithinB
import Derived.Test.YtclbpjjnhfllkabDoorRows
import Derived.LaidMore
import Derived.Outline
namespace Go.Proofs.YtclbpjjnhfllkabDoor
open Go.ChangeShapes Go.WideShapes Go.ChangeAt Go.RowKit Pm

/-- The program's table of signs lies there. -/
def SignsAt (w : World) : Prop := ∀ r, r < 26 → w.cell? ⟨0, r, none⟩ = some (.string (morseS r))
theorem SignsAt.below {w w' : World} (h : SignsAt w) (hb : Below w.heap.size w w') : SignsAt w' := fun r hr => cell_below (h r hr) hb
theorem signs_of {W : World} {rest : List (String × DataW Unit)} (h : laidMet Tryd.prog (("loop.example/g00953/impl.morseSigns", Rows.laid_loop_example_g00953_impl_morseSigns) :: rest) W) : SignsAt W := by
  obtain ⟨ps, ⟨g, t, cs, fuel, p, q, hg, ht, hv, hd, _, _⟩, _, _⟩ := h
  obtain rfl := Option.some.inj ((show Tryd.prog.globalNamed "loop.example/g00953/impl.morseSigns" = some 0 by kernel_rfl).symm.trans hg)
  obtain rfl := Option.some.inj ((show (Tryd.prog.globals[0]?).map (·.type) = some 96 by kernel_rfl).symm.trans ht)
  obtain ⟨xs, m, _, ex, _, hl, hel⟩ := DataW.trod_array Tryd.underlying96 hd
  have c9 : Tryd.prog.cellsOf 9 = 1 := by kernel_rfl
  intro r hr
  have hE := hel r hr
  rw [c9, Nat.mul_one, List.getElem?_eq_getElem (by omega)] at hE
  obtain ⟨s, e1, e2, _⟩ := DataW.trod_string Tryd.underlying9 hE
  have e3 : (xs.map (·.1)) = morseL.map fun b => .lit (.string b) := (DataW.agg.inj (Prod.mk.inj ex).1).symm
  have hlen : morseL.length = 26 := rfl
  have e4 : (xs.map (·.1))[r]? = (morseL.map fun b => (DataW.lit (.string b) : DataW Unit))[r]? := by rw [e3]
  rw [List.getElem?_map, List.getElem?_map, List.getElem?_eq_getElem (by omega : r < xs.length), List.getElem?_eq_getElem (by omega : r < morseL.length), e2] at e4
  have hz : s = morseS r := by
    simp only [Option.map_some, Option.some.injEq, DataW.lit.injEq, Lit.string.injEq] at e4
    refine WideShapes.bytes_inj ?_
    rw [e4, morseS, morseB, List.getD, List.getElem?_eq_getElem (by omega : r < morseL.length)]
    rfl
  rw [World.var?_cell hg hv r, ← hz]
  have : cs.toList[r]? = some (.string s) := by
    have h0 : ((cs.toList.drop r).take 1)[0]? = some (.string s) := by rw [e1]; rfl
    simpa using h0
  simpa using this

theorem morse_new (w : World) (T : TypeId) (r : Nat) (hr : r < 26) :
    (w.alloc (Obj.cells (morseL.map fun b => Value.string ⟨b.toArray⟩).toArray T)).cell? ⟨w.heap.size, r, none⟩ = some (.string (morseS r)) := by
  have h := (MapKept.heap_alloc w (.cells (morseL.map fun b => Value.string ⟨b.toArray⟩).toArray T)).1
  simp only [World.cell?, h]
  have hl : morseL.length = 26 := rfl
  simp [morseS, morseB, hl, hr]

set_option maxRecDepth 100000 in
set_option maxHeartbeats 1000000 in
theorem smorse_any (r : Nat) (hr : r < 26) (w : World) :
    Calls Tryd.prog 92 #[.int .u8 (65 + (r : Int))] w (IntsRet ((morseB r).map sgn) w) := by
  obtain ⟨f1, f2, f3⟩ := morse_facts r hr
  have hx : (morseL.map fun b => Value.string ⟨b.toArray⟩)[r]'(by rw [List.length_map]; exact hr) = Value.string (morseS r) := by
    rw [List.getElem_map]; unfold morseS morseB; rw [List.getD_eq_getElem?_getD, List.getElem?_eq_getElem (by rw [morse_len]; exact hr)]; rfl
  simp only [morseL, List.map_cons, List.map_nil] at hx
  have hsz : (morseS r).size = (morseB r).length := morseS_size r
  have hat : ∀ k (h : k < (morseB r).length), (morseS r)[k]'(by rw [hsz]; exact h) = (morseB r)[k] := fun k h => rfl
  obtain ⟨s, hs⟩ : ∃ s, s = morseS r := ⟨_, rfl⟩
  obtain ⟨l, hl⟩ : ∃ l, l = morseB r := ⟨_, rfl⟩
  have hsz : s.size = l.length := by rw [hs, hl]; exact hsz
  have HAT := Lib.hid (show ∀ k (h : k < l.length) (h2 : k < s.size), s[k] = l[k] by subst hs hl; exact fun k h _ => hat k h)
  rw [← hs] at hx
  rw [← hl] at f1 f2 f3 ⊢
  have HF := Lib.hid f3
  have hr1 : (r : Int) < 26 := by omega
  have hl4 : s.size ≤ 4 := by omega
  have hl1 : 1 ≤ s.size := by omega
  clear f1 f3 hat hs hl
  go_enter Tryd.func92, Tryd.ntmps92
  go_wp2_with (fail)
  simp only [show 65 + r - 65 = r by omega]
  go_loopw [5, 6] (fun v i wr => ∃ (k : Nat), k ≤ s.size ∧ i = .int .i64 k ∧ Ints1 wr w.heap.size v ((l.take k).map sgn) ∧ Below w.heap.size w wr) (fun _ i _ => s.size - (intOf i).toNat)
  case atStart => exact ⟨0, Nat.zero_le _, rfl, Ints1.lit _ _ _ (by simp) (by simp), by go_grown⟩
  case round =>
    obtain ⟨k, hk, rfl, hown, hbel⟩ := hrel
    have HO := Lib.hid hown
    have HB := Lib.hid hbel
    clear hown hbel
    by_cases hlt : k < s.size
    · have hkn : (k : Int) < (s.size : Int) := by omega
      have hlk : k < l.length := by omega
      have HE := Lib.hid (show (l.take (k + 1)).map sgn = (l.take k).map sgn ++ [sgn l[k]] by rw [List.take_succ_eq_append_getElem hlk, List.map_append]; rfl)
      have HA := Lib.hid (HAT.out k hlk hlt)
      have hzl : ((l.take k).map sgn).length ≤ 4 := by simp; omega
      obtain ⟨zs, hzs⟩ : ∃ zs, zs = (l.take k).map sgn := ⟨_, rfl⟩
      rw [← hzs] at HO HE hzl
      clear hzs
      by_cases hc : l[k] = 46
      · have hb : (((s[k]).toNat : Int) == 46) = true := by rw [HA.out, hc]; rfl
        have HE2 := Lib.hid (show (l.take (k + 1)).map sgn = zs ++ [5] by rw [HE.out]; unfold sgn; rw [if_pos hc])
        clear HA hc
        go_wp2_with (at_builtin; (refine wpList_app_ints rfl _ _ w.heap.size _ zs [5] w wr _ HO.out HB.out (Nat.le_refl _) (Nat.succ_pos _) (by simp only [List.length_cons, List.length_nil]; omega) rfl rfl rfl ?_))
        intro v' w1 h1 h2 _
        have HO1 := Lib.hid h1
        have HB1 := Lib.hid h2
        clear h1 h2
        go_wp2
        go_roundw
        case rel => exact ⟨k + 1, by omega, by go_num, by rw [HE2.out]; exact HO1.out, HB1.out⟩
        case measure => simp [intOf]; omega
      · have hb : (((s[k]).toNat : Int) == 46) = false := by
          rw [beq_eq_false_iff_ne, HA.out]; intro e; exact hc (UInt8.toNat_inj.1 (by show l[k].toNat = 46; omega))
        have HE2 := Lib.hid (show (l.take (k + 1)).map sgn = zs ++ [15] by rw [HE.out]; unfold sgn; rw [if_neg hc])
        clear HA hc
        go_wp2_with (at_builtin; (refine wpList_app_ints rfl _ _ w.heap.size _ zs [15] w wr _ HO.out HB.out (Nat.le_refl _) (Nat.succ_pos _) (by simp only [List.length_cons, List.length_nil]; omega) rfl rfl rfl ?_))
        intro v' w1 h1 h2 _
        have HO1 := Lib.hid h1
        have HB1 := Lib.hid h2
        clear h1 h2
        go_wp2
        go_roundw
        case rel => exact ⟨k + 1, by omega, by go_num, by rw [HE2.out]; exact HO1.out, HB1.out⟩
        case measure => simp [intOf]; omega
    · have HE := Lib.hid (show (l.take k).map sgn = l.map sgn by rw [List.take_of_length_le (by omega)])
      go_wp2
      go_ret
      exact ⟨_, rfl, by rw [← HE.out]; exact HO.out, HB.out⟩

theorem sgn_five {b : UInt8} : (sgn b == 5) = (b == 46) := by
  unfold sgn
  split
  · rename_i h; rw [h]; rfl
  · rename_i h; rw [beq_eq_false_iff_ne.2 h]; rfl
set_option maxRecDepth 100000 in
set_option maxHeartbeats 1000000 in
theorem scode_any (r : Nat) (hr : r < 26) (w : World) :
    Calls Tryd.prog 63 #[.int .u8 (65 + (r : Int))] w fun e w' => e = .returned (.string (morseS r)) ∧ Below w.heap.size w w' := by
  obtain ⟨f1, f2, f3⟩ := morse_facts r hr
  have HM := Lib.hid (smorse_any r hr w)
  have HV := Lib.hid (show morseS r = ⟨(morseB r).toArray⟩ from rfl)
  obtain ⟨l, hl⟩ : ∃ l, l = morseB r := ⟨_, rfl⟩
  rw [← hl] at f1 f2 f3 HM HV
  have HF := Lib.hid f3
  clear hl f3
  go_enter Tryd.func63, Tryd.ntmps63
  go_wp2_with (go_at_call 92; refine HM.out.mono ?_; rintro e w1 ⟨v, rfl, ho, hb⟩; refine Hid.out ?_)
  refine Lib.hid ?_
  have hp : 0 < l.length := by omega
  obtain ⟨g, cap, rfl⟩ : ∃ g cap, v = .slice (some ⟨g, 0, none⟩) l.length cap := by
    rcases ho.form with ⟨_, e⟩ | ⟨g, cap, e, _⟩
    · have := congrArg List.length e; rw [List.length_map] at this; simp only [List.length_nil] at this; omega
    · exact ⟨g, cap, by rw [e, List.length_map]⟩
  have HC := Lib.hid (show ∀ k (h : k < l.length), w1.cell? ⟨g, k, none⟩ = some (.int .i64 (sgn l[k])) from fun k h => by
    have h1 : w1.ownsRow w.heap.size 2 1 (.slice (some ⟨g, 0, none⟩) l.length cap) l.length (vals (l.map sgn)) := by
      have h0 := ho
      unfold Ints1 at h0
      rwa [List.length_map] at h0
    rw [h1.cellAt k (by omega)]
    simp [vals, h])
  have HB := Lib.hid hb
  clear ho hb
  go_wp2_with (fail)
  go_loop [4, 5] (fun o i => ∃ (k : Nat), k ≤ l.length ∧ i = .int .i64 k ∧ o = .string ⟨(l.take k).toArray⟩) (fun _ i => l.length - (intOf i).toNat)
  case atStart => exact ⟨0, Nat.zero_le _, rfl, rfl⟩
  case round =>
    obtain ⟨k, hk, rfl, rfl⟩ := hrel
    by_cases hlt : k < l.length
    · have hkn : (k : Int) < (l.length : Int) := by omega
      have hc := HC.out k hlt
      have HS := Lib.hid (take_bytes hlt)
      have hz : (⟨(l.take k).toArray⟩ : ByteArray).size ≤ 4 := by simp [ByteArray.size]; omega
      have hf : l[k] = 46 ∨ l[k] = 45 := by
        have := List.all_eq_true.1 HF.out l[k] (List.getElem_mem hlt)
        simpa using this
      obtain ⟨u, hu⟩ : ∃ u, u = (⟨(l.take k).toArray⟩ : ByteArray) := ⟨_, rfl⟩
      rw [← hu] at HS hz ⊢
      clear hu
      rcases hf with hf | hf
      · rw [hf] at HS hc
        have hb : (sgn 46 == 5) = true := rfl
        have k1 := fun w => run_string_add_sum (P := Tryd.prog) (w := w) u ⟨#[46]⟩ (by have : (⟨#[46]⟩ : ByteArray).size = 1 := rfl; omega)
        have k0 : sgn 46 = 5 := rfl
        rw [k0] at hc
        clear k0 hb hf
        go_wp2
        go_round
        case rel => exact ⟨k + 1, by omega, by go_num, by rw [HS.out]⟩
        case measure => simp [intOf]; omega
      · rw [hf] at HS hc
        have k1 := fun w => run_string_add_sum (P := Tryd.prog) (w := w) u ⟨#[45]⟩ (by have : (⟨#[45]⟩ : ByteArray).size = 1 := rfl; omega)
        have k0 : sgn 45 = 15 := rfl
        rw [k0] at hc
        clear k0 hf
        go_wp2
        go_round
        case rel => exact ⟨k + 1, by omega, by go_num, by rw [HS.out]⟩
        case measure => simp [intOf]; omega
    · have HE := Lib.hid (show morseS r = ⟨(l.take k).toArray⟩ by rw [HV.out, List.take_of_length_le (by omega)])
      go_wp2
      go_ret
      exact ⟨retS HE.out.symm, HB.out⟩
end Go.Proofs.YtclbpjjnhfllkabDoor
