/- The text of a list of numbers: the program's. -/
import Derived.Test.YthccbipjmheoaaaDoorListS
import Derived.Test.YthccbipjmheoaaaDoorLaid
namespace Go.Proofs.YthccbipjmheoaaaDoor
open Go.ChangeShapes Go.WideShapes Go.ChangeAt Go.RowKit Pm

theorem infoStr : (Tryd.prog.info? 9).map (fun i => (i.zero, i.size, i.bytes)) = some (some (.string ⟨#[]⟩), 1, 16) := by kernel_rfl

theorem jn_len : ∀ (k : Nat) (zs : List Int), zs.length = k → (∀ z ∈ zs, -9223372036854775808 ≤ z ∧ z ≤ 9223372036854775807) → (jn zs).length ≤ 22 * k := by
  intro k
  induction k with
  | zero => intro zs h _; rw [List.length_eq_zero_iff.1 h]; exact Nat.le_refl _
  | succ k ih =>
    intro zs h hb
    have hne : zs ≠ [] := by intro e; rw [e] at h; simp at h
    obtain ⟨r, z, rfl⟩ : ∃ r z, zs = r ++ [z] := ⟨zs.dropLast, zs.getLast hne, (List.dropLast_concat_getLast hne).symm⟩
    have hz := hb z (by simp)
    have hl := Lib.itoa_length_le z hz.1 hz.2
    rw [List.length_append, List.length_singleton] at h
    by_cases hr : r = []
    · subst hr; rw [List.nil_append, jn_one]; omega
    · rw [jn_snoc r z hr, List.length_append, List.length_append, List.length_singleton]
      have := ih r (by omega) (fun y hy => hb y (by simp [hy]))
      omega

/-- The form of a number, as a string. -/
def itoaS (z : Int) : ByteArray := ⟨(Lib.itoa z).toArray⟩

set_option maxRecDepth 100000 in
set_option maxHeartbeats 800000 in
theorem joindec_some (sv : Value) (zs : List Int) (w : World) (hs : IntsAre .i64 w sv zs) (hp : PowAt w) (hf : fitsB zs = true) (h0 : zs ≠ []) :
    Calls Tryd.prog 70 #[sv, .string ⟨#[44]⟩] w fun e w' => e = .returned (.string ⟨(listT zs).toArray⟩) ∧ Below w.heap.size w w' := by
  have hT : listT zs = jn zs := by unfold listT; rw [if_pos hf, if_neg h0]
  obtain ⟨h64, hin⟩ := fits_out hf
  obtain ⟨i0, hi, hz0, hz1, hz2⟩ := info_parts infoStr
  rcases hs with ⟨_, e⟩ | ⟨b, off, cap, rfl, hm, hc⟩
  · exact absurd e h0
  have hlen : (jn zs).length ≤ 22 * zs.length := jn_len _ zs rfl (fun z hz => by
    unfold inB at hin
    have := List.all_eq_true.1 hin z hz
    simp at this; omega)
  have HT := Lib.hid hT
  have HC := Lib.hid hc
  have HIN := Lib.hid hin
  have HP := Lib.hid hp
  have HLEN := Lib.hid hlen
  have hpos := List.length_pos_iff.2 h0
  have hlen0 : ((zs.length : Int) == 0) = false := by rw [beq_eq_false_iff_ne]; omega
  clear hT hc hin h0 hp hlen hf
  go_enter Tryd.func70, Tryd.ntmps70
  go_wp2_with (at_make; refine wpList_make_full _ rfl _ _ 60 rfl w.heap.size 9 i0 (.string ⟨#[]⟩) 1 Tryd.underlying60 hi hz0 hz1 _ _ _ _ zs.length rfl rfl rfl rfl (by rw [hz2]; omega) (by unfold maxLen; omega) (Nat.le_refl _) ?_)
  intro w1 hown hg
  have hb : Below w.heap.size w w1 := (Below.refl _ _).grown hg (Nat.le_refl _) (fun k hk => by cases hk)
  obtain ⟨xs0, hx0⟩ : ∃ xs0, xs0 = (madeCells #[Value.string ⟨#[]⟩] zs.length).toList := ⟨_, rfl⟩
  rw [← hx0] at hown
  have hl0 : xs0.length = zs.length := by have := hown.1; omega
  have HO := Lib.hid hown
  have HB := Lib.hid hb
  have HBS := Lib.hid hb.size
  clear hown hg hb hx0
  go_wp2_with (fail)
  go_loopw [13] (fun i wr => ∃ (k : Nat) (xs : List Value), k ≤ zs.length ∧ i = .int .i64 k ∧ Upto xs k (zs.map fun z => Value.string (itoaS z)) ∧ wr.ownsRow w.heap.size 9 1 (.slice (some ⟨w.heap.size, 0, none⟩) zs.length zs.length) zs.length xs ∧ Below w.heap.size w wr) (fun i _ => zs.length - (intOf i).toNat)
  case atStart => exact ⟨0, xs0, Nat.zero_le _, rfl, ⟨by simpa using hl0, fun j hj => by omega⟩, HO.out, HB.out⟩
  case round =>
    obtain ⟨k, xs, hk, rfl, hup, hown, hbel⟩ := hrel
    have HU := Lib.hid hup
    clear hup
    by_cases hlt : k < zs.length
    · have hcell := cell_below (HC.out k hlt) hbel
      obtain ⟨z0, z1⟩ := inB_at _ _ zs k hlt HIN.out
      obtain ⟨z, hz⟩ : ∃ z, z = zs.getD k 0 := ⟨_, rfl⟩
      rw [← hz] at hcell z0 z1
      have hst : (zs.map fun z => Value.string (itoaS z))[k]? = some (.string (itoaS z)) := by rw [hz]; simp [hlt]
      have hup2 := HU.out.step (u := .string (itoaS z)) (by simpa using hlt) hst
      obtain ⟨u, hu⟩ : ∃ u, u = itoaS z := ⟨_, rfl⟩
      have HD := Lib.hid (fun w hp => decimal_any z w (by omega) (by omega) hp)
      rw [show (⟨(Lib.itoa z).toArray⟩ : ByteArray) = u from hu.symm] at HD
      rw [← hu] at hup2
      have HUP := Lib.hid hup2
      have HBR := Lib.hid hbel
      have HOW := Lib.hid hown
      clear hup2 hst hz hu hbel hown
      go_wp2_with (go_at_call 33; refine (HD.out _ (PowAt.below HP.out HBR.out)).mono ?_; rintro e w2 ⟨rfl, hb2⟩; refine Hid.out ?_)
      refine Lib.hid ?_
      have hown2 := own_below HOW.out hb2
      have hbel2 := HBR.out.trans (hb2.mono HBR.out.size)
      have hold := hown2.cellAt k (by omega)
      rw [List.getElem?_eq_getElem (by have := HU.out.1; simp at this; omega)] at hold
      have hfz := hown2.frozenAt k
      have HST := Lib.hid (hown2.stored k (.string u)).1
      have HB2 := Lib.hid (hbel2.setCell (p := ⟨w.heap.size, k, none⟩) (Nat.le_refl _) (.string u))
      clear hown2 hbel2 hb2
      go_wp2
      go_roundw
      case rel => exact ⟨k + 1, _, by omega, by go_num, HUP.out, HST.out, HB2.out⟩
      case measure => simp [intOf]; omega
    · obtain rfl : k = zs.length := by omega
      have hxs : xs = zs.map fun z => Value.string (itoaS z) := by
        have h := HU.out
        rw [show zs.length = (zs.map fun z => Value.string (itoaS z)).length by simp] at h
        exact h.all
      rw [hxs] at hown
      have hj : Lib.join ((zs.map itoaS).map (·.data.toList)) (⟨#[44]⟩ : ByteArray).data.toList = jn zs := by
        unfold jn
        congr 1
        rw [List.map_map]
        rfl
      have hcs : ∀ (j : Nat) x, (zs.map itoaS)[j]? = some x → wr.cell? ⟨w.heap.size, 0 + j, none⟩ = some (.string x) := by
        intro j x hx
        have hlj : j < zs.length := by have := (List.getElem?_eq_some_iff.1 hx).1; simpa using this
        rw [Nat.zero_add, hown.cellAt j (by omega)]
        simp only [List.getElem?_map, List.getElem?_eq_getElem hlj, Option.map_some] at hx ⊢
        rw [Option.some.inj hx]
      have hsz : w.heap.size < wr.heap.size := (hown.lt w.heap.size rfl).2
      have hJ := Any.strings_Join Tryd.lays156 Tryd.Builder_Extra_156 w.heap.size 0 zs.length (zs.map itoaS) ⟨#[44]⟩ wr hcs hsz (by simp; omega) (by simp) (by rw [hj]; have := HLEN.out; omega)
      rw [hj, ← HT.out, List.length_map] at hJ
      have HJ := Lib.hid hJ
      have HBR := Lib.hid hbel
      clear hJ hj hcs hsz hown hbel hxs
      go_wp2_with (go_at_call 31; refine HJ.out.mono ?_; rintro e w2 ⟨rfl, hb2⟩)
      go_ret
      exact ⟨rfl, HBR.out.trans (hb2.mono HBR.out.size)⟩

theorem listtext_small (sv : Value) (zs : List Int) (w : World) (hs : IntsAre .i64 w sv zs) (hp : PowAt w) (hf : fitsB zs = true) (h0 : zs ≠ []) :
    Calls Tryd.prog 52 #[sv] w fun e w' => e = .returned (.string ⟨(listT zs).toArray⟩) ∧ Below w.heap.size w w' := by
  obtain ⟨h64, hin⟩ := fits_out hf
  have HJ := Lib.hid (joindec_some sv zs w hs hp hf h0)
  have HWI := Lib.hid (within_any (-1000000000000) 1000000000000 sv zs w hs)
  rw [hin] at HWI
  rcases hs with ⟨_, e⟩ | ⟨b, off, cap, rfl, hm, hc⟩
  · exact absurd e h0
  have hpos := List.length_pos_iff.2 h0
  have hlen0 : ((zs.length : Int) == 0) = false := by rw [beq_eq_false_iff_ne]; omega
  obtain ⟨t, ht⟩ : ∃ t : ByteArray, t = ⟨(listT zs).toArray⟩ := ⟨_, rfl⟩
  rw [← ht] at HJ ⊢
  clear hc hin h0 hp hf ht
  go_enter Tryd.func52, Tryd.ntmps52
  go_wp2_with (first | (go_at_call 38; refine HWI.out.mono ?_; rintro e w' ⟨rfl, rfl⟩) | (go_at_call 70; refine HJ.out.mono ?_; rintro e w' ⟨rfl, hb⟩))
  go_ret
  exact ⟨rfl, hb⟩

theorem listtext_any (sv : Value) (zs : List Int) (w : World) (hs : IntsAre .i64 w sv zs) (hp : PowAt w) :
    Calls Tryd.prog 52 #[sv] w fun e w' => e = .returned (.string ⟨(listT zs).toArray⟩) ∧ Below w.heap.size w w' := by
  have hsl : ∃ a c, sv = .slice a zs.length c := by
    rcases hs with ⟨rfl, rfl⟩ | ⟨b, off, cap, rfl, _, _⟩
    · exact ⟨none, 0, rfl⟩
    · exact ⟨_, _, rfl⟩
  have HWI := Lib.hid (within_any (-1000000000000) 1000000000000 sv zs w hs)
  cases hf : fitsB zs
  · have HT := Lib.hid (show listT zs = [] by unfold listT; rw [if_neg (by simp [hf])])
    obtain ⟨a, c, rfl⟩ := hsl
    by_cases h64 : zs.length ≤ 64
    · have hin : inB (-1000000000000) 1000000000000 zs = false := by
        unfold fitsB at hf
        rw [decide_eq_true h64, Bool.true_and] at hf
        exact hf
      rw [hin] at HWI
      clear hs hf hin hp
      go_enter Tryd.func52, Tryd.ntmps52
      go_wp2_with (go_at_call 38; refine HWI.out.mono ?_; rintro e w' ⟨rfl, rfl⟩)
      go_ret
      exact ⟨by rw [HT.out]; rfl, Below.refl _ _⟩
    · have h65 : (64 : Int) < (zs.length : Int) := by omega
      clear hs hf hp h64
      go_enter Tryd.func52, Tryd.ntmps52
      go_wp2
      go_ret
      exact ⟨by rw [HT.out]; rfl, Below.refl _ _⟩
  · by_cases h0 : zs = []
    · subst h0
      have HT := Lib.hid (show listT [] = [45] by unfold listT; rw [if_pos hf, if_pos rfl])
      obtain ⟨a, c, rfl⟩ := hsl
      rw [show inB (-1000000000000) 1000000000000 [] = true from rfl] at HWI
      clear hs hf hp
      go_enter Tryd.func52, Tryd.ntmps52
      go_wp2_with (go_at_call 38; refine HWI.out.mono ?_; rintro e w' ⟨rfl, rfl⟩)
      go_ret
      exact ⟨by rw [HT.out]; rfl, Below.refl _ _⟩
    · exact listtext_small sv zs w hs hp hf h0
end Go.Proofs.YthccbipjmheoaaaDoor
