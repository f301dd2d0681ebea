/- A turned circle: the model's. -/
import Derived.Test.YtclbpjjnhfllkaaCirS
import Derived.Test.YtclbpjjnhfllkaaKeep
import Derived.Test.YtclbpjjnhfllkaaSimS
import Derived.Test.YtclbpjjnhfllkaaColA
import Derived.Deep.RegionHeld3
namespace Go.Proofs.Ytclbpjjnhfllkaa
open Go.ChangeShapes Go.WideShapes Go.ChangeAt Go.RowKit Pm

/-- The circle, turned by a; so far for k bearings. -/
def turnK (L : List ByteArray) (a k : Nat) : List ByteArray := (List.range 360).map fun (b : Nat) => if (b + 360 - a) % 360 < k then L.getD ((b + 360 - a) % 360) e0 else e0
def turnL (L : List ByteArray) (a : Nat) : List ByteArray := turnK L a 360
theorem turnK_len (L : List ByteArray) (a k : Nat) : (turnK L a k).length = 360 := by simp [turnK]
theorem turnK_zero (L : List ByteArray) (a : Nat) : turnK L a 0 = List.replicate 360 e0 := by
  apply List.ext_getElem
  · rw [turnK_len, List.length_replicate]
  · intro i h1 h2
    rw [List.getElem_replicate]
    simp only [turnK, List.getElem_map]
    rw [if_neg (by omega)]
theorem turnK_step (L : List ByteArray) {a k j : Nat} (ha : a < 360) (hk : k < 360) (hj : j = (k + a) % 360) : (turnK L a k).set j (L.getD k e0) = turnK L a (k + 1) := by
  apply List.ext_getElem (by simp [turnK])
  intro i h1 h2
  rw [List.getElem_set]
  have hi : i < 360 := by simpa [turnK] using h2
  by_cases e : j = i
  · rw [if_pos e]
    have h3 : (i + 360 - a) % 360 = k := by omega
    simp [turnK, h3]
  · rw [if_neg e]
    have h3 : (i + 360 - a) % 360 ≠ k := by omega
    by_cases h4 : (i + 360 - a) % 360 < k
    · have h5 : (i + 360 - a) % 360 < k + 1 := by omega
      simp [turnK, h4, h5]
    · have h5 : ¬ (i + 360 - a) % 360 < k + 1 := by omega
      simp [turnK, h4, h5]
noncomputable def trnV (ps : List Sec) (d : Int) : List Sec := if validS ps then simpV (cF (turnL (circL ps) (ang d).toNat)) false else []
noncomputable def valC (ps : List Sec) : Int := if validS ps then 0 else 1
/-- An answer: a row of sectors of its own, and a code. -/
def OwnSC (L : List Sec) (z : Int) (w : World) (e : Ending) (w' : World) : Prop := ∃ v, e = .returned (.tuple #[v, .int .i64 z]) ∧ OwnSec w' w.heap.size v L ∧ Below w.heap.size w w'
theorem ownsc_no {L : List Sec} {z k : Int} {w w' : World} (h1 : L = []) (h2 : z = k) (hb : Below w.heap.size w w') : OwnSC L z w (.returned (.tuple #[.slice none 0 0, .int .i64 k])) w' :=
  ⟨_, by rw [h2], by rw [h1]; exact OwnSec.none _ _, hb⟩
set_option maxRecDepth 100000 in
set_option maxHeartbeats 2000000 in
theorem sturn_any (v : Value) (ps : List Sec) (d : Int) (w : World) (hm : ps.length ≤ 1048576) (h : SecAre w v ps) :
    Calls Try.prog 38 #[v, .int .i64 d] w (OwnSC (trnV ps d) (valC ps) w) := by
  have HS := Lib.hid (sokay_any v ps w hm h)
  cases hv : validS ps
  · rw [hv] at HS
    have H1 := Lib.hid (show trnV ps d = [] by unfold trnV; rw [hv]; rfl)
    have H2 := Lib.hid (show valC ps = 1 by unfold valC; rw [hv]; rfl)
    clear h
    go_enter Try.func38, Try.ntmps38
    go_wp2_with (go_at_call 42; refine HS.out.mono ?_; rintro e w1 ⟨rfl, m, rfl⟩)
    go_ret2
    exact ownsc_no H1.out H2.out (below_drewN (Below.refl _ _) m)
  · obtain ⟨i0, hi, hz0, hz1, hz2⟩ := strinfo_parts infoStrC
    rw [hv] at HS
    have hd := ang_bd d
    have HD := Lib.hid (fun w => sangle_any d w)
    obtain ⟨q, hq⟩ : ∃ q : Nat, (q : Int) = ang d := ⟨(ang d).toNat, by omega⟩
    have H1 := Lib.hid (show trnV ps d = simpV (cF (turnL (circL ps) q)) false by unfold trnV; rw [hv, ← hq]; rfl)
    have H2 := Lib.hid (show valC ps = 0 by unfold valC; rw [hv]; rfl)
    rw [← hq] at HD
    have HC := Lib.hid (fun w' (hb : Below w.heap.size w w') => scircle_any v ps w' (validS_iff.1 hv) (h.below hb))
    have hq1 : q < 360 := by omega
    have hqi : (q : Int) < 360 := by omega
    obtain ⟨L, hL⟩ : ∃ L, L = circL ps := ⟨_, rfl⟩
    rw [← hL] at HC H1
    clear h hv hd hq hL
    go_enter Try.func38, Try.ntmps38
    go_wp2_with (go_at_call 42; refine HS.out.mono ?_; rintro e w1 ⟨rfl, m, rfl⟩; refine Hid.out ?_)
    refine Lib.hid ?_
    have HB := Lib.hid (below_drewN (Below.refl w.heap.size w) m)
    go_wp2_with (go_at_call 49; refine (HC.out _ HB.out).mono ?_; rintro e w2 ⟨g, rfl, ho, hb⟩; refine Hid.out ?_)
    refine Lib.hid ?_
    have HB := Lib.hid (Below.next HB.out hb)
    have HO := Lib.hid ho
    clear ho hb HS HC
    go_wp2_with (at_make; refine wpList_make_full _ rfl _ _ 55 rfl w2.heap.size 9 i0 (.string ⟨#[]⟩) 1 Try.underlying55 hi hz0 hz1 _ _ _ _ 360 rfl rfl rfl rfl (by rw [hz2]; omega) (by unfold maxLen; omega) (Nat.le_refl _) ?_)
    intro w3 hown hg
    have hb : Below w2.heap.size w2 w3 := (Below.refl _ _).grown hg (Nat.le_refl _) (fun k hk => by cases hk)
    have HT := Lib.hid (show OwnC w3 w2.heap.size w2.heap.size 360 360 (turnK L q 0) by
      have e : (madeCells #[Value.string ⟨#[]⟩] 360).toList = cirV (turnK L q 0) := by rw [turnK_zero]; exact made_str 360
      rw [e] at hown; exact hown)
    have HB3 := Lib.hid hb
    clear hown hg hb hi hz0 hz1 hz2
    go_wp2_with (fail)
    go_loopw [8] (fun i wr => ∃ k : Nat, k ≤ 360 ∧ i = .int .i64 k ∧ OwnC wr w2.heap.size w2.heap.size 360 360 (turnK L q k) ∧ Below w2.heap.size w2 wr) (fun i _ => 360 - (intOf i).toNat)
    case atStart => exact ⟨0, Nat.zero_le _, rfl, HT.out, HB3.out⟩
    case round =>
      obtain ⟨k, hk, rfl, ht, hbel⟩ := hrel
      by_cases hlt : k < 360
      · have hkn : (k : Int) < 360 := by omega
        obtain ⟨j, hj⟩ : ∃ j : Nat, j = (k + q) % 360 := ⟨_, rfl⟩
        have hj1 : j < 360 := by omega
        have hji : ((k : Int) + (q : Int)).tmod 360 = (j : Int) := by rw [Int.tmod_eq_emod_of_nonneg (by omega), hj]; omega
        have hj2 : (j : Int) < 360 := by omega
        have hj0 : (0 : Int) ≤ (j : Int) := by omega
        have hjw : IntKind.i64.wrap (j : Int) = (j : Int) := IntWalk.i64_in _ (by omega)
        have hsw : IntKind.i64.wrap ((k : Int) + (q : Int)) = (k : Int) + (q : Int) := IntWalk.i64_in _ (by omega)
        have HST := Lib.hid (turnK_step L hq1 hlt hj)
        have x0 := (HO.out.below hbel).cell k hlt
        have o0 := outq_is (ht.cell j hj1)
        have fz := ht.frozen j
        have HKQ := Lib.hid (show KeepQ w2.heap.size w2.heap.size 360 j (turnK L q k) w2 wr from ⟨⟨_, ht, fun _ _ => rfl⟩, hbel⟩)
        have HLN := Lib.hid (turnK_len L q k)
        have hne : g ≠ w2.heap.size := by have := lt_of_cellq (HO.out.cell 0 (by omega)); simp at this; omega
        generalize L.getD k e0 = s at *
        obtain ⟨TK, hTK⟩ : ∃ TK, TK = turnK L q k := ⟨_, rfl⟩
        rw [← hTK] at HST HKQ HLN ht
        have HTKQ := Lib.hid hTK
        clear hj ht hTK hbel
        go_wp2_with (fail)
        go_region_held3 (fun w' => w'.cell? ⟨g, k, none⟩ = some (.string s) ∧ w'.cell? ⟨g, k, none⟩ = some (.string s) ∧ w'.cell? ⟨g, k, none⟩ = some (.string s) ∧ w'.cell? ⟨w2.heap.size, j, none⟩ = some (outq w2.heap.size j w') ∧ w'.frozen? ⟨w2.heap.size, j, none⟩ = false ∧ KeepQ w2.heap.size w2.heap.size 360 j TK w2 w')
          (first | assumption | exact keepQ (by assumption) (by assumption) | exact drewQ (by assumption) | exact putQ hne hne hne (by assumption) | exact drewQ ⟨x0, x0, x0, o0, fz, HKQ.out⟩ | exact ⟨x0, x0, x0, o0, fz, HKQ.out⟩)
          (first
            | (go_at_call 50; refine (HD.out _).mono ?_; rintro e w3 ⟨rfl, rfl⟩))
        rename_i hH
        have hK := hH.2.2.2.2.2
        obtain ⟨z, hz⟩ : ∃ z, wr.cell? ⟨w2.heap.size, j, none⟩ = some z := ⟨_, o0⟩
        have HO5 := Lib.hid (hK.put HLN.out hj1 (World.cell?_setCell_same _ _ _ hz))
        have HB5 := Lib.hid hK.2
        rw [HST.out] at HO5
        clear hK hH hz o0 fz x0
        go_wp2_with (fail)
        go_roundw
        case rel => exact ⟨k + 1, by omega, by go_num, HO5.out, HB5.out⟩
        case measure => simp [intOf]; omega
      · obtain rfl : k = 360 := by omega
        have HSM := Lib.hid (fun w (h : OwnC w w2.heap.size w2.heap.size 360 360 (turnK L q 360)) => ssimple_false w2.heap.size w2.heap.size (turnK L q 360) w h)
        rw [show simpV (cF (turnK L q 360)) false = trnV ps d from H1.out.symm] at HSM
        have HT2 := Lib.hid ht
        have HB4 := Lib.hid (HB.out.trans (hbel.mono HB.out.size))
        have hsz := Nat.le_trans HB.out.size hbel.size
        clear ht hbel
        go_wp2_with (go_at_call 52; refine (HSM.out _ HT2.out).mono ?_; rintro e w5 ⟨v5, rfl, ho, hb⟩; refine Hid.out ?_)
        refine Lib.hid ?_
        have HO5 := Lib.hid (ho.mono hsz)
        have HB5 := Lib.hid (Below.next HB4.out hb)
        clear ho hb
        go_wp2_with (fail)
        go_ret2
        exact ⟨_, by rw [H2.out]; rfl, HO5.out, HB5.out⟩
end Go.Proofs.Ytclbpjjnhfllkaa
