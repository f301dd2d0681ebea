/- The text of a list of numbers: the model's. -/
import Derived.Test.YthggoboljkdldaaDoorSlices
import Derived.Test.YthggoboljkdldaaDoorDec
import Derived.Lib.Join
import Derived.Lib.ItoaLen
namespace Go.Proofs.YthggoboljkdldaaDoor
open Go.ChangeShapes Go.WideShapes Go.ChangeAt Go.RowKit Pm

theorem ret_str {s u : ByteArray} (h : s = u) : Ending.returned (.string s) = .returned (.string u) := by rw [h]

/-- The forms of numbers, commas between. -/
def jn (zs : List Int) : List UInt8 := Lib.join (zs.map Lib.itoa) [44]

theorem jn_snoc (zs : List Int) (z : Int) (h : zs ≠ []) : jn (zs ++ [z]) = jn zs ++ [44] ++ Lib.itoa z := by
  cases zs with
  | nil => exact absurd rfl h
  | cons a r =>
    simp only [jn, List.cons_append, List.map_cons, List.map_append, List.map_nil]
    rw [Lib.join_cons, Lib.join_cons]
    simp [Lib.joinTail]

theorem jn_one (z : Int) : jn [z] = Lib.itoa z := Lib.join_one _ _

/-- Has a list a text? -/
def fitsB (zs : List Int) : Bool := decide (zs.length ≤ 64) && inB (-1000000000000) 1000000000000 zs
theorem fits_out {zs : List Int} (h : fitsB zs = true) : zs.length ≤ 64 ∧ inB (-1000000000000) 1000000000000 zs = true := by
  simpa [fitsB] using h
/-- The text of a list; nothing where there is none. -/
def listT (zs : List Int) : List UInt8 := if fitsB zs = true then (if zs = [] then [45] else jn zs) else []

theorem inB_take (lo hi : Int) (zs : List Int) (k : Nat) (hk : k < zs.length) : inB lo hi (zs.take (k + 1)) = (inB lo hi (zs.take k) && inB lo hi [zs.getD k 0]) := by
  rw [take_succ_getD zs k hk]
  simp [inB, List.all_append]
theorem inB_bad (lo hi : Int) (zs : List Int) (k : Nat) (hk : k < zs.length) (h : inB lo hi [zs.getD k 0] = false) : inB lo hi zs = false := by
  unfold inB at h ⊢
  rw [List.all_eq_false]
  refine ⟨zs.getD k 0, by simp [hk], by simpa using h⟩
theorem inB_at (lo hi : Int) (zs : List Int) (k : Nat) (hk : k < zs.length) (h : inB lo hi zs = true) : lo ≤ zs.getD k 0 ∧ zs.getD k 0 ≤ hi := by
  unfold inB at h
  have := List.all_eq_true.1 h (zs.getD k 0) (by simp [hk])
  simpa using this

theorem sfits_any (sv : Value) (zs : List Int) (w : World) (hs : IntsAre .i64 w sv zs) :
    Calls Tryd.prog 64 #[sv] w fun e w' => e = .returned (.bool (fitsB zs)) ∧ w = w' := by
  rcases hs with ⟨rfl, rfl⟩ | ⟨b, off, cap, rfl, hm, hc⟩
  · go_enter Tryd.func64, Tryd.ntmps64
    go_wp2
    go_rounds 1
    go_ret
    exact ⟨rfl, rfl⟩
  · have HC := Lib.hid hc
    clear hc
    go_enter Tryd.func64, Tryd.ntmps64
    go_wp2
    go_loop [3] (fun i => ∃ k : Nat, k ≤ zs.length ∧ i = .int .i64 k ∧ inB (-1000000000000) 1000000000000 (zs.take k) = true) (fun i => zs.length - (intOf i).toNat)
    case atStart => exact ⟨0, Nat.zero_le _, rfl, rfl⟩
    case round =>
      obtain ⟨k, hk, rfl, hin⟩ := hrel
      have HI := Lib.hid hin
      clear hin
      by_cases hlt : k < zs.length
      · have hcell := HC.out k hlt
        cases hz : inB (-1000000000000) 1000000000000 [zs.getD k 0]
        · have HB := Lib.hid (inB_bad _ _ zs k hlt hz)
          generalize zs.getD k 0 = z at hcell hz
          go_wp2_with (go_at_call 67; refine (in_any _ _ _ _).mono ?_; rintro e w' ⟨rfl, rfl⟩)
          go_ret
          exact ⟨by rw [show fitsB zs = false by unfold fitsB; rw [HB.out, Bool.and_false]]; rfl, rfl⟩
        · have HT := Lib.hid (inB_take (-1000000000000) 1000000000000 zs k hlt)
          have HZ := Lib.hid hz
          generalize hzz : zs.getD k 0 = z at hcell hz
          have HZZ := Lib.hid hzz
          clear hzz
          go_wp2_with (go_at_call 67; refine (in_any _ _ _ _).mono ?_; rintro e w' ⟨rfl, rfl⟩)
          go_round
          case rel => exact ⟨k + 1, by omega, by go_num, by rw [HT.out, HI.out, HZ.out]; rfl⟩
          case measure => simp [intOf]; omega
      · obtain rfl : k = zs.length := by omega
        have hfull : inB (-1000000000000) 1000000000000 zs = true := by rw [← HI.out, List.take_of_length_le (Nat.le_refl _)]
        have HF := Lib.hid hfull
        clear hfull
        by_cases h64 : zs.length ≤ 64
        · have hd : decide ((zs.length : Int) ≤ 64) = true := by simp; omega
          go_wp2
          go_ret
          exact ⟨by rw [show fitsB zs = true by unfold fitsB; rw [HF.out, Bool.and_true, decide_eq_true h64]]; rfl, rfl⟩
        · have hd : decide ((zs.length : Int) ≤ 64) = false := by simp; omega
          go_wp2
          go_ret
          exact ⟨by rw [show fitsB zs = false by unfold fitsB; rw [decide_eq_false h64]; rfl]; rfl, rfl⟩

theorem slist_any (sv : Value) (zs : List Int) (w : World) (hs : IntsAre .i64 w sv zs) (hf : fitsB zs = true) :
    Calls Tryd.prog 65 #[sv] w fun e w' => e = .returned (.string ⟨(listT zs).toArray⟩) ∧ Below w.heap.size w w' := by
  have hT : listT zs = if zs = [] then [45] else jn zs := by unfold listT; rw [if_pos hf]
  obtain ⟨h64, hin⟩ := fits_out hf
  clear hf
  by_cases h0 : zs = []
  · subst h0
    have HT := Lib.hid (hT.trans (if_pos rfl))
    obtain ⟨a, c, rfl⟩ : ∃ a c, sv = .slice a 0 c := by
      rcases hs with ⟨rfl, _⟩ | ⟨b, off, cap, rfl, _, _⟩
      · exact ⟨none, 0, rfl⟩
      · exact ⟨_, _, rfl⟩
    clear hs hT
    go_enter Tryd.func65, Tryd.ntmps65
    go_wp2
    go_ret
    exact ⟨by rw [HT.out]; rfl, Below.refl _ _⟩
  · rcases hs with ⟨_, e⟩ | ⟨b, off, cap, rfl, hm, hc⟩
    · exact absurd e h0
    rw [if_neg h0] at hT
    have HT := Lib.hid hT
    have HC := Lib.hid hc
    have HIN := Lib.hid hin
    have hlen0 : ((zs.length : Int) == 0) = false := by
      have := List.length_pos_iff.2 h0
      rw [beq_eq_false_iff_ne]; omega
    have hpos := List.length_pos_iff.2 h0
    clear hT hc hin h0
    go_enter Tryd.func65, Tryd.ntmps65
    go_wp2
    go_loopw [3, 4] (fun t i wr => ∃ (k : Nat) (s : ByteArray), k ≤ zs.length ∧ i = .int .i64 k ∧ t = .string s ∧ s.size ≤ 22 * k ∧ s.data.toList = (if k = 0 then [] else jn (zs.take k)) ∧ Below w.heap.size w wr) (fun _ i _ => zs.length - (intOf i).toNat)
    case atStart => exact ⟨0, ⟨#[]⟩, Nat.zero_le _, rfl, rfl, Nat.le_refl _, rfl, Below.refl _ _⟩
    case round =>
      obtain ⟨k, s, hk, rfl, rfl, hsz, hsl, hbel⟩ := hrel
      have HS := Lib.hid hsl
      have HB := Lib.hid hbel
      clear hsl hbel
      by_cases hlt : k < zs.length
      · have hcell := cell_below (HC.out k hlt) HB.out
        obtain ⟨z0, z1⟩ := inB_at _ _ zs k hlt HIN.out
        have HTK := Lib.hid (take_succ_getD zs k hlt)
        obtain ⟨z, hz⟩ : ∃ z, z = zs.getD k 0 := ⟨_, rfl⟩
        rw [← hz] at hcell z0 z1 HTK
        clear hz
        have hil := Lib.itoa_length_le z (by omega) (by omega)
        obtain ⟨u, hu⟩ : ∃ u : ByteArray, u = ⟨(Lib.itoa z).toArray⟩ := ⟨_, rfl⟩
        have hus : u.size ≤ 21 := by rw [hu]; show (Lib.itoa z).toArray.size ≤ 21; simpa using hil
        have HD := Lib.hid (fun w => sdec_any z w (by omega) (by omega))
        rw [← hu] at HD
        have HU := Lib.hid (show u.data.toList = Lib.itoa z by rw [hu])
        clear hu hil
        by_cases hk0 : 0 < k
        · go_wp2_with (go_at_call 80; refine (HD.out _).mono ?_; rintro e w2 ⟨rfl, hb2⟩)
          go_roundw
          case rel => exact ⟨k + 1, _, by omega, by go_num, rfl, by simp only [ByteArray.size_append]; show s.size + 1 + u.size ≤ _; omega, by rw [if_neg (by omega), HTK.out, jn_snoc _ _ (by intro e; have h9 := congrArg List.length e; rw [List.length_take, List.length_nil] at h9; omega), ByteArray.data_append, ByteArray.data_append, Array.toList_append, Array.toList_append, HS.out, if_neg (by omega), HU.out], HB.out.trans (hb2.mono HB.out.size)⟩
          case measure => simp [intOf]; omega
        · obtain rfl : k = 0 := by omega
          have hs22 : s.size ≤ 22 := by omega
          have HSZ := Lib.hid hsz
          clear hsz
          rw [Nat.add_zero] at hcell
          go_wp2_with (go_at_call 80; refine (HD.out _).mono ?_; rintro e w2 ⟨rfl, hb2⟩)
          go_roundw
          case rel => exact ⟨0 + 1, _, by omega, by go_num, rfl, by have := HSZ.out; simp only [ByteArray.size_append]; omega, by rw [if_neg (by omega), HTK.out, List.take_zero, List.nil_append, jn_one, ByteArray.data_append, Array.toList_append, HS.out, HU.out]; simp, HB.out.trans (hb2.mono HB.out.size)⟩
          case measure => simp [intOf]; omega
      · obtain rfl : k = zs.length := by omega
        have hfin : s = ⟨(listT zs).toArray⟩ := by
          refine WideShapes.bytes_inj ?_
          rw [HS.out, if_neg (by omega), List.take_of_length_le (Nat.le_refl _), HT.out]
        have HF := Lib.hid hfin
        clear hfin
        go_wp2
        go_ret
        exact ⟨ret_str HF.out, HB.out⟩

theorem slisttext_any (sv : Value) (zs : List Int) (w : World) (hs : IntsAre .i64 w sv zs) :
    Calls Tryd.prog 35 #[sv] w fun e w' => e = .returned (.string ⟨(listT zs).toArray⟩) ∧ Below w.heap.size w w' := by
  have HF := Lib.hid (sfits_any sv zs w hs)
  cases hf : fitsB zs
  · have hT : listT zs = [] := by unfold listT; rw [if_neg (by simp [hf])]
    have HT := Lib.hid hT
    rw [hf] at HF
    clear hT hs
    go_enter Tryd.func35, Tryd.ntmps35
    go_wp2_with (go_at_call 64; refine HF.out.mono ?_; rintro e w' ⟨rfl, rfl⟩)
    go_ret
    exact ⟨by rw [HT.out]; rfl, Below.refl _ _⟩
  · have HL := Lib.hid (slist_any sv zs w hs hf)
    rw [hf] at HF
    clear hs
    go_enter Tryd.func35, Tryd.ntmps35
    go_wp2_with (first | (go_at_call 64; refine HF.out.mono ?_; rintro e w' ⟨rfl, rfl⟩) | (go_at_call 65; refine HL.out.mono ?_; rintro e w2 ⟨rfl, hb2⟩))
    go_ret
    exact ⟨rfl, hb2⟩
end Go.Proofs.YthggoboljkdldaaDoor
