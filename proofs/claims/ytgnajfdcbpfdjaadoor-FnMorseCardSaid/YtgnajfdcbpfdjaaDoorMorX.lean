/- The signs of a letter: the model's and the program's. The signs of a text that is a letter: MorseOf. -/
import Derived.Test.YtgnajfdcbpfdjaaDoorMorM
import Derived.Test.YtgnajfdcbpfdjaaDoorOwnK
import Derived.Test.YtgnajfdcbpfdjaaDoorWithinB
import Derived.Test.YtgnajfdcbpfdjaaDoorRows
import Derived.LaidMore
import Derived.Outline
namespace Go.Proofs.YtgnajfdcbpfdjaaDoor
open Go.ChangeShapes Go.WideShapes Go.ChangeAt Go.RowKit Pm

/-- The program's table of signs lies there. -/
def SignsAt (w : World) : Prop := ∀ r, r < 26 → w.cell? ⟨0, r, none⟩ = some (.string (morseS r))
theorem SignsAt.below {w w' : World} (h : SignsAt w) (hb : Below w.heap.size w w') : SignsAt w' := fun r hr => cell_below (h r hr) hb
theorem signs_of {W : World} {rest : List (String × DataW Unit)} (h : laidMet Tryd.prog (("loop.example/g00953/impl.morseSigns", Rows.laid_loop_example_g00953_impl_morseSigns) :: rest) W) : SignsAt W := by
  obtain ⟨ps, ⟨g, t, cs, fuel, p, q, hg, ht, hv, hd, _, _⟩, _, _⟩ := h
  obtain rfl := Option.some.inj ((show Tryd.prog.globalNamed "loop.example/g00953/impl.morseSigns" = some 0 by kernel_rfl).symm.trans hg)
  obtain rfl := Option.some.inj ((show (Tryd.prog.globals[0]?).map (·.type) = some 96 by kernel_rfl).symm.trans ht)
  obtain ⟨xs, m, _, ex, _, hl, hel⟩ := DataW.trod_array Tryd.underlying96 hd
  have c9 : Tryd.prog.cellsOf 9 = 1 := by kernel_rfl
  intro r hr
  have hE := hel r hr
  rw [c9, Nat.mul_one, List.getElem?_eq_getElem (by omega)] at hE
  obtain ⟨s, e1, e2, _⟩ := DataW.trod_string Tryd.underlying9 hE
  have e3 : (xs.map (·.1)) = morseL.map fun b => .lit (.string b) := (DataW.agg.inj (Prod.mk.inj ex).1).symm
  have hlen : morseL.length = 26 := rfl
  have e4 : (xs.map (·.1))[r]? = (morseL.map fun b => (DataW.lit (.string b) : DataW Unit))[r]? := by rw [e3]
  rw [List.getElem?_map, List.getElem?_map, List.getElem?_eq_getElem (by omega : r < xs.length), List.getElem?_eq_getElem (by omega : r < morseL.length), e2] at e4
  have hz : s = morseS r := by
    simp only [Option.map_some, Option.some.injEq, DataW.lit.injEq, Lit.string.injEq] at e4
    refine WideShapes.bytes_inj ?_
    rw [e4, morseS, morseB, List.getD, List.getElem?_eq_getElem (by omega : r < morseL.length)]
    rfl
  rw [World.var?_cell hg hv r, ← hz]
  have : cs.toList[r]? = some (.string s) := by
    have h0 : ((cs.toList.drop r).take 1)[0]? = some (.string s) := by rw [e1]; rfl
    simpa using h0
  simpa using this

theorem morse_new (w : World) (T : TypeId) (r : Nat) (hr : r < 26) :
    (w.alloc (Obj.cells (morseL.map fun b => Value.string ⟨b.toArray⟩).toArray T)).cell? ⟨w.heap.size, r, none⟩ = some (.string (morseS r)) := by
  have h := (MapKept.heap_alloc w (.cells (morseL.map fun b => Value.string ⟨b.toArray⟩).toArray T)).1
  simp only [World.cell?, h]
  have hl : morseL.length = 26 := rfl
  simp [morseS, morseB, hl, hr]

set_option maxRecDepth 100000 in
set_option maxHeartbeats 1000000 in
theorem smorse_any (r : Nat) (hr : r < 26) (w : World) :
    Calls Tryd.prog 92 #[.int .u8 (65 + (r : Int))] w (IntsRet ((morseB r).map sgn) w) := by
  obtain ⟨f1, f2, f3⟩ := morse_facts r hr
  have hx : (morseL.map fun b => Value.string ⟨b.toArray⟩)[r]'(by rw [List.length_map]; exact hr) = Value.string (morseS r) := by
    rw [List.getElem_map]; unfold morseS morseB; rw [List.getD_eq_getElem?_getD, List.getElem?_eq_getElem (by rw [morse_len]; exact hr)]; rfl
  simp only [morseL, List.map_cons, List.map_nil] at hx
  have hsz : (morseS r).size = (morseB r).length := morseS_size r
  have hat : ∀ k (h : k < (morseB r).length), (morseS r)[k]'(by rw [hsz]; exact h) = (morseB r)[k] := fun k h => rfl
  obtain ⟨s, hs⟩ : ∃ s, s = morseS r := ⟨_, rfl⟩
  obtain ⟨l, hl⟩ : ∃ l, l = morseB r := ⟨_, rfl⟩
  have hsz : s.size = l.length := by rw [hs, hl]; exact hsz
  have HAT := Lib.hid (show ∀ k (h : k < l.length) (h2 : k < s.size), s[k] = l[k] by subst hs hl; exact fun k h _ => hat k h)
  rw [← hs] at hx
  rw [← hl] at f1 f2 f3 ⊢
  have HF := Lib.hid f3
  have hr1 : (r : Int) < 26 := by omega
  have hl4 : s.size ≤ 4 := by omega
  have hl1 : 1 ≤ s.size := by omega
  clear f1 f3 hat hs hl
  go_enter Tryd.func92, Tryd.ntmps92
  go_wp2_with (fail)
  simp only [show 65 + r - 65 = r by omega]
  go_loopw [5, 6] (fun v i wr => ∃ (k : Nat), k ≤ s.size ∧ i = .int .i64 k ∧ Ints1 wr w.heap.size v ((l.take k).map sgn) ∧ Below w.heap.size w wr) (fun _ i _ => s.size - (intOf i).toNat)
  case atStart => exact ⟨0, Nat.zero_le _, rfl, Ints1.lit _ _ _ (by simp) (by simp), by go_grown⟩
  case round =>
    obtain ⟨k, hk, rfl, hown, hbel⟩ := hrel
    have HO := Lib.hid hown
    have HB := Lib.hid hbel
    clear hown hbel
    by_cases hlt : k < s.size
    · have hkn : (k : Int) < (s.size : Int) := by omega
      have hlk : k < l.length := by omega
      have HE := Lib.hid (show (l.take (k + 1)).map sgn = (l.take k).map sgn ++ [sgn l[k]] by rw [List.take_succ_eq_append_getElem hlk, List.map_append]; rfl)
      have HA := Lib.hid (HAT.out k hlk hlt)
      have hzl : ((l.take k).map sgn).length ≤ 4 := by simp; omega
      obtain ⟨zs, hzs⟩ : ∃ zs, zs = (l.take k).map sgn := ⟨_, rfl⟩
      rw [← hzs] at HO HE hzl
      clear hzs
      by_cases hc : l[k] = 46
      · have hb : (((s[k]).toNat : Int) == 46) = true := by rw [HA.out, hc]; rfl
        have HE2 := Lib.hid (show (l.take (k + 1)).map sgn = zs ++ [5] by rw [HE.out]; unfold sgn; rw [if_pos hc])
        clear HA hc
        go_wp2_with (at_builtin; (refine wpList_app_ints rfl _ _ w.heap.size _ zs [5] w wr _ HO.out HB.out (Nat.le_refl _) (Nat.succ_pos _) (by simp only [List.length_cons, List.length_nil]; omega) rfl rfl rfl ?_))
        intro v' w1 h1 h2 _
        have HO1 := Lib.hid h1
        have HB1 := Lib.hid h2
        clear h1 h2
        go_wp2
        go_roundw
        case rel => exact ⟨k + 1, by omega, by go_num, by rw [HE2.out]; exact HO1.out, HB1.out⟩
        case measure => simp [intOf]; omega
      · have hb : (((s[k]).toNat : Int) == 46) = false := by
          rw [beq_eq_false_iff_ne, HA.out]; intro e; exact hc (UInt8.toNat_inj.1 (by show l[k].toNat = 46; omega))
        have HE2 := Lib.hid (show (l.take (k + 1)).map sgn = zs ++ [15] by rw [HE.out]; unfold sgn; rw [if_neg hc])
        clear HA hc
        go_wp2_with (at_builtin; (refine wpList_app_ints rfl _ _ w.heap.size _ zs [15] w wr _ HO.out HB.out (Nat.le_refl _) (Nat.succ_pos _) (by simp only [List.length_cons, List.length_nil]; omega) rfl rfl rfl ?_))
        intro v' w1 h1 h2 _
        have HO1 := Lib.hid h1
        have HB1 := Lib.hid h2
        clear h1 h2
        go_wp2
        go_roundw
        case rel => exact ⟨k + 1, by omega, by go_num, by rw [HE2.out]; exact HO1.out, HB1.out⟩
        case measure => simp [intOf]; omega
    · have HE := Lib.hid (show (l.take k).map sgn = l.map sgn by rw [List.take_of_length_le (by omega)])
      go_wp2
      go_ret
      exact ⟨_, rfl, by rw [← HE.out]; exact HO.out, HB.out⟩

theorem sgn_five {b : UInt8} : (sgn b == 5) = (b == 46) := by
  unfold sgn
  split
  · rename_i h; rw [h]; rfl
  · rename_i h; rw [beq_eq_false_iff_ne.2 h]; rfl
set_option maxRecDepth 100000 in
set_option maxHeartbeats 1000000 in
theorem scode_any (r : Nat) (hr : r < 26) (w : World) :
    Calls Tryd.prog 63 #[.int .u8 (65 + (r : Int))] w fun e w' => e = .returned (.string (morseS r)) ∧ Below w.heap.size w w' := by
  obtain ⟨f1, f2, f3⟩ := morse_facts r hr
  have HM := Lib.hid (smorse_any r hr w)
  have HV := Lib.hid (show morseS r = ⟨(morseB r).toArray⟩ from rfl)
  obtain ⟨l, hl⟩ : ∃ l, l = morseB r := ⟨_, rfl⟩
  rw [← hl] at f1 f2 f3 HM HV
  have HF := Lib.hid f3
  clear hl f3
  go_enter Tryd.func63, Tryd.ntmps63
  go_wp2_with (go_at_call 92; refine HM.out.mono ?_; rintro e w1 ⟨v, rfl, ho, hb⟩; refine Hid.out ?_)
  refine Lib.hid ?_
  have hp : 0 < l.length := by omega
  obtain ⟨g, cap, rfl⟩ : ∃ g cap, v = .slice (some ⟨g, 0, none⟩) l.length cap := by
    rcases ho.form with ⟨_, e⟩ | ⟨g, cap, e, _⟩
    · have := congrArg List.length e; rw [List.length_map] at this; simp only [List.length_nil] at this; omega
    · exact ⟨g, cap, by rw [e, List.length_map]⟩
  have HC := Lib.hid (show ∀ k (h : k < l.length), w1.cell? ⟨g, k, none⟩ = some (.int .i64 (sgn l[k])) from fun k h => by
    have h1 : w1.ownsRow w.heap.size 2 1 (.slice (some ⟨g, 0, none⟩) l.length cap) l.length (vals (l.map sgn)) := by
      have h0 := ho
      unfold Ints1 at h0
      rwa [List.length_map] at h0
    rw [h1.cellAt k (by omega)]
    simp [vals, h])
  have HB := Lib.hid hb
  clear ho hb
  go_wp2_with (fail)
  go_loop [4, 5] (fun o i => ∃ (k : Nat), k ≤ l.length ∧ i = .int .i64 k ∧ o = .string ⟨(l.take k).toArray⟩) (fun _ i => l.length - (intOf i).toNat)
  case atStart => exact ⟨0, Nat.zero_le _, rfl, rfl⟩
  case round =>
    obtain ⟨k, hk, rfl, rfl⟩ := hrel
    by_cases hlt : k < l.length
    · have hkn : (k : Int) < (l.length : Int) := by omega
      have hc := HC.out k hlt
      have HS := Lib.hid (take_bytes hlt)
      have hz : (⟨(l.take k).toArray⟩ : ByteArray).size ≤ 4 := by simp [ByteArray.size]; omega
      have hf : l[k] = 46 ∨ l[k] = 45 := by
        have := List.all_eq_true.1 HF.out l[k] (List.getElem_mem hlt)
        simpa using this
      obtain ⟨u, hu⟩ : ∃ u, u = (⟨(l.take k).toArray⟩ : ByteArray) := ⟨_, rfl⟩
      rw [← hu] at HS hz ⊢
      clear hu
      rcases hf with hf | hf
      · rw [hf] at HS hc
        have hb : (sgn 46 == 5) = true := rfl
        have k1 := fun w => run_string_add_sum (P := Tryd.prog) (w := w) u ⟨#[46]⟩ (by have : (⟨#[46]⟩ : ByteArray).size = 1 := rfl; omega)
        have k0 : sgn 46 = 5 := rfl
        rw [k0] at hc
        clear k0 hb hf
        go_wp2
        go_round
        case rel => exact ⟨k + 1, by omega, by go_num, by rw [HS.out]⟩
        case measure => simp [intOf]; omega
      · rw [hf] at HS hc
        have k1 := fun w => run_string_add_sum (P := Tryd.prog) (w := w) u ⟨#[45]⟩ (by have : (⟨#[45]⟩ : ByteArray).size = 1 := rfl; omega)
        have k0 : sgn 45 = 15 := rfl
        rw [k0] at hc
        clear k0 hf
        go_wp2
        go_round
        case rel => exact ⟨k + 1, by omega, by go_num, by rw [HS.out]⟩
        case measure => simp [intOf]; omega
    · have HE := Lib.hid (show morseS r = ⟨(l.take k).toArray⟩ by rw [HV.out, List.take_of_length_le (by omega)])
      go_wp2
      go_ret
      exact ⟨retS HE.out.symm, HB.out⟩
end Go.Proofs.YtgnajfdcbpfdjaaDoor
namespace Go.Proofs.YtgnajfdcbpfdjaaDoor
open Go.ChangeShapes Go.WideShapes Go.ChangeAt Go.RowKit Pm

theorem capN_at (s : ByteArray) (h : s.size = 1) : capN s = if 65 ≤ (s[0]'(by omega)).toNat ∧ (s[0]'(by omega)).toNat ≤ 90 then some ((s[0]'(by omega)).toNat - 65) else none := by
  obtain ⟨c, rfl⟩ := one_byteM s h
  exact capN_one c

theorem signs_any (s : ByteArray) (w : World) (hT : SignsAt w) :
    Calls Tryd.prog 40 #[.string s] w fun e w' => e = .returned (.string (signsV s)) ∧ Below w.heap.size w w' := by
  by_cases h : s.size = 1
  · have hca := capN_at s h
    obtain ⟨n, hn⟩ : ∃ n, (s[0]'(by omega)).toNat = n := ⟨_, rfl⟩
    have hn1 : n < 256 := by rw [← hn]; exact UInt8.toNat_lt _
    rw [hn] at hca
    by_cases h1 : 65 ≤ n ∧ n ≤ 90
    · obtain ⟨r, rfl⟩ : ∃ r, n = 65 + r := ⟨n - 65, by omega⟩
      have H1 := ints_one w .u8 (65 + (r : Int)) 5
      have hin : inB 65 90 [65 + (r : Int)] = true := by simp [inB]; omega
      have HV := Lib.hid (show signsV s = morseS r by unfold signsV; rw [hca, if_pos h1, Nat.add_sub_cancel_left])
      have hr1 : (r : Int) < 26 := by omega
      have HT := Lib.hid (hT r (by omega))
      clear hT hca h1 hn1
      go_enter Tryd.func40, Tryd.ntmps40
      go_wp2_with (go_at_call 69; refine (within_byte _ _ _ _ _ H1).mono ?_; rintro e w1 ⟨rfl, hw⟩; refine Hid.out ?_)
      refine Lib.hid ?_
      have hb : Below w.heap.size w w1 := by rw [← hw]; exact (Below.refl _ _).alloc (Nat.le_refl _) _
      have hcell := cell_below HT.out hb
      have HB := Lib.hid hb
      clear hw hb H1
      go_wp2
      go_ret
      exact ⟨retS HV.out.symm, HB.out⟩
    · have H1 := ints_one w .u8 (n : Int) 5
      have hin : inB 65 90 [(n : Int)] = false := by simp [inB]; omega
      have HV := Lib.hid (show signsV s = ⟨#[]⟩ by unfold signsV; rw [hca, if_neg h1])
      clear hT h1 hca
      go_enter Tryd.func40, Tryd.ntmps40
      go_wp2_with (go_at_call 69; refine (within_byte _ _ _ _ _ H1).mono ?_; rintro e w1 ⟨rfl, hw⟩)
      go_ret
      exact ⟨retS HV.out.symm, by rw [← hw]; exact (Below.refl _ _).alloc (Nat.le_refl _) _⟩
  · have HV := Lib.hid (show signsV s = ⟨#[]⟩ by unfold signsV; rw [capN_long h])
    have h1 : ((s.size : Int) != 1) = true := by rw [bne_iff_ne]; omega
    clear h hT
    go_enter Tryd.func40, Tryd.ntmps40
    go_wp2
    go_ret
    exact ⟨retS HV.out.symm, Below.refl _ _⟩

theorem morse_ne {r : Nat} (h : r < 26) : (morseS r).toList.isEmpty = false := by
  rw [morseS_list]
  have := (morse_facts r h).1
  cases e : morseB r
  · rw [e] at this; simp at this
  · rfl
/-- The signs of a text, and a code. -/
def morC (s : ByteArray) : Int := if (capN s).isSome then 0 else 1
theorem retSI {a b : ByteArray} {c d : Int} (h : a = b) (k : c = d) : Ending.returned (.tuple #[.string a, .int .i64 c]) = .returned (.tuple #[.string b, .int .i64 d]) := by rw [h, k]
theorem morseof_any (s : ByteArray) (w : World) (hT : SignsAt w) :
    Calls Tryd.prog 18 #[.string s] w fun e w' => e = .returned (.tuple #[.string (signsV s), .int .i64 (morC s)]) ∧ Below w.heap.size w w' := by
  have HS := Lib.hid (signs_any s w hT)
  clear hT
  cases hc : capN s with
  | none =>
    have HV := Lib.hid (show signsV s = ⟨#[]⟩ by unfold signsV; rw [hc])
    have HC := Lib.hid (show morC s = 1 by unfold morC; rw [hc]; rfl)
    rw [HV.out] at HS
    clear hc
    go_enter Tryd.func18, Tryd.ntmps18
    go_wp2_with (go_at_call 40; refine HS.out.mono ?_; rintro e w1 ⟨rfl, hb⟩; have HB := Lib.hid hb; clear hb)
    go_ret2
    exact ⟨retSI HV.out.symm HC.out.symm, HB.out⟩
  | some r =>
    obtain ⟨hs, hr⟩ := capN_some hc
    have HV := Lib.hid (show signsV s = morseS r by unfold signsV; rw [hc])
    have HC := Lib.hid (show morC s = 0 by unfold morC; rw [hc]; rfl)
    have hne := morse_ne hr
    rw [HV.out] at HS
    obtain ⟨u, hu⟩ : ∃ u, u = morseS r := ⟨_, rfl⟩
    rw [← hu] at HS HV hne
    clear hc hs hu
    go_enter Tryd.func18, Tryd.ntmps18
    go_wp2_with (go_at_call 40; refine HS.out.mono ?_; rintro e w1 ⟨rfl, hb⟩; have HB := Lib.hid hb; clear hb)
    go_ret2
    exact ⟨retSI HV.out.symm HC.out.symm, HB.out⟩
end Go.Proofs.YtgnajfdcbpfdjaaDoor
