/- The arcs of a circle: the program's. -/
import Derived.Test.YtclbpjjnhfllkaaArcI
import Derived.Test.YtclbpjjnhfllkaaTrnI
import Derived.Test.YtclbpjjnhfllkaaEqA
import Derived.BigRegion
namespace Go.Proofs.Ytclbpjjnhfllkaa
open Go.ChangeShapes Go.WideShapes Go.ChangeAt Go.RowKit Pm

theorem keepX {W0 w w1 : World} {g : Nat} {L : List ByteArray} {X : List Value} (hb : Below w.heap.size w w1) (HX : Hid (∀ w', OwnA w' g L → w'.rangeAt g 0 X))
    (h : w.rangeAt g 0 X ∧ OwnA w g L ∧ Below W0.heap.size W0 w) : w1.rangeAt g 0 X ∧ OwnA w1 g L ∧ Below W0.heap.size W0 w1 :=
  ⟨HX.out _ (h.2.1.below hb), h.2.1.below hb, Below.next h.2.2 hb⟩
/-- What the arcs' call leaves. -/
def ArcsR (c : Nat → ByteArray) (w : World) (e : Ending) (w' : World) : Prop := ∃ v, e = .returned v ∧ OwnSec w' w.heap.size v (arcP c) ∧ Below w.heap.size w w'
theorem arcP_one {c : Nat → ByteArray} (h : begs c 360 = []) : arcP c = [(0, 0, c 0)] := by unfold arcP; rw [if_pos h]
set_option maxRecDepth 100000 in
set_option maxHeartbeats 8000000 in
theorem arcs_uni (g : Nat) (L : List ByteArray) (w : World) (ho : OwnA w g L) (hu : uniB L = true) :
    Calls Try.prog 55 #[.pointer (some ⟨g, 0, none⟩)] w (ArcsR (cF L) w) := by
  have HQ := Lib.hid (arcP_one ((uniB_begs L).1 hu))
  have HEQ := fun w => eq_turned L ho.len w
  rw [hu] at HEQ
  have HTN := Lib.hid (fun w' (h : OwnA w' g L) => turned_any g L 1 w' h)
  rw [show (ang 1).toNat = 1 from rfl] at HTN
  have hun := Try.underlying60
  have hin : (Try.prog.info? 60).map (·.size) = some (cirV L).length := by rw [sizeArr, cirV_len, ho.len]
  obtain ⟨X, hX⟩ : ∃ X, X = cirV L := ⟨_, rfl⟩
  obtain ⟨Y, hY⟩ : ∃ Y, Y = cirV (turnL L 1) := ⟨_, rfl⟩
  rw [← hX, ← hY] at HEQ
  rw [← hY] at HTN
  rw [← hX] at hin
  have HO := Lib.hid ho
  have HX := Lib.hid (show ∀ w', OwnA w' g L → w'.rangeAt g 0 X from fun w' h => by rw [hX]; exact h.range)
  have HSD := Lib.hid (show L.getD 0 e0 = cF L 0 from rfl)
  obtain ⟨c, hc⟩ : ∃ c, c = cF L := ⟨_, rfl⟩
  rw [← hc] at HQ HSD ⊢
  clear ho hu hX hY hc
  go_enter Try.func55, Try.ntmps55
  go_wp2_with (fail)
  go_region_held3 (fun w' => w'.rangeAt g 0 X ∧ OwnA w' g L ∧ Below w.heap.size w w')
    (first | assumption | exact keepX (by assumption) HX (by assumption) | exact keepX (Below.refl _ _).drew HX (by assumption) | exact keepX (Below.refl _ _).drew HX ⟨HX.out _ HO.out, HO.out, Below.refl _ _⟩ | exact ⟨HX.out _ HO.out, HO.out, Below.refl _ _⟩)
    (first
      | (go_at_call 62; refine (HTN.out _ (by have hS : OwnA _ g L := (by assumption : _ ∧ OwnA _ g L ∧ _).2.1; exact hS)).mono ?_; rintro e w3 ⟨rfl, hb⟩))
  rename_i hH
  obtain ⟨-, hO, hB⟩ := hH
  have x0 := hO.cell 0 (by omega)
  rw [HSD.out] at x0
  generalize c 0 = s at *
  have HB := Lib.hid hB
  clear hb hO hB
  go_wp2_with (fail)
  go_ret
  refine ⟨_, rfl, ?_, HB.out.alloc HB.out.size _⟩
  rw [HQ.out]
  exact OwnSec.mono (World.ownsRow_lit (base := w3.heap.size) w3 #[Value.int .i64 0, .int .i64 0, .string s] 1 (Nat.le_refl _) (by unfold maxLen; omega) rfl) HB.out.size
set_option maxRecDepth 100000 in
set_option maxHeartbeats 8000000 in
theorem arcs_many (g : Nat) (L : List ByteArray) (w : World) (ho : OwnA w g L) (hu : uniB L = false) :
    Calls Try.prog 55 #[.pointer (some ⟨g, 0, none⟩)] w (ArcsR (cF L) w) := by
  have hne : begs (cF L) 360 ≠ [] := fun h => by rw [(uniB_begs L).2 h] at hu; cases hu
  have HEQ := fun w => eq_turned L ho.len w
  rw [hu] at HEQ
  have HTN := Lib.hid (fun w' (h : OwnA w' g L) => turned_any g L 1 w' h)
  rw [show (ang 1).toNat = 1 from rfl] at HTN
  have HNU := Lib.hid (fun w' (h : OwnA w' g L) => numbers_any g L w' h)
  have hun := Try.underlying60
  have hin : (Try.prog.info? 60).map (·.size) = some (cirV L).length := by rw [sizeArr, cirV_len, ho.len]
  obtain ⟨X, hX⟩ : ∃ X, X = cirV L := ⟨_, rfl⟩
  obtain ⟨Y, hY⟩ : ∃ Y, Y = cirV (turnL L 1) := ⟨_, rfl⟩
  rw [← hX, ← hY] at HEQ
  rw [← hY] at HTN
  rw [← hX] at hin
  have HO := Lib.hid ho
  have HX := Lib.hid (show ∀ w', OwnA w' g L → w'.rangeAt g 0 X from fun w' h => by rw [hX]; exact h.range)
  obtain ⟨i0, hi, hz0, hz1, hz2⟩ := secinfo_parts infoSec
  have HI := Lib.hid (And.intro hi (And.intro hz0 (And.intro hz1 hz2)))
  have HCL := Lib.hid (show ∀ w', OwnA w' g L → ∀ d, d < 360 → w'.cell? ⟨g, d, none⟩ = some (.string (cF L d)) from fun w' h d hd => h.cell d hd)
  obtain ⟨c, hc⟩ : ∃ c, c = cF L := ⟨_, rfl⟩
  rw [← hc] at HNU HCL hne ⊢
  obtain ⟨bs, hbs⟩ : ∃ bs, bs = begs c 360 := ⟨_, rfl⟩
  have hbl : bs.length ≤ 360 := by rw [hbs]; have := begI_len c 360; simpa [begI] using this
  have hb0 : 0 < bs.length := by rw [hbs]; exact List.length_pos_iff.2 hne
  have HBT := Lib.hid (show ∀ i, i < bs.length → bs.getD i 0 < 360 from fun i h => by rw [hbs] at h ⊢; exact (begs_at h).1)
  have HAP := Lib.hid (show arcP c = (List.range bs.length).map fun (i : Nat) => (((bs.getD i 0 : Nat) : Int), ((bs.getD ((i + 1) % bs.length) 0 : Nat) : Int), c (bs.getD i 0)) by unfold arcP; rw [if_neg hne, ← hbs])
  rw [show begI c 360 = bs.map fun (d : Nat) => (d : Int) by rw [hbs]; rfl] at HNU
  obtain ⟨n, hnn⟩ : ∃ n, n = bs.length := ⟨_, rfl⟩
  obtain ⟨AR, hAR⟩ : ∃ AR, AR = arcP c := ⟨_, rfl⟩
  rw [← hnn] at hbl hb0 HBT
  rw [← hnn, ← hAR] at HAP
  have HAL := Lib.hid (show AR.length = n by rw [HAP.out]; simp)
  have HAT := Lib.hid (show ∀ i, i < n → AR.getD i sec0 = (((bs.getD i 0 : Nat) : Int), ((bs.getD ((i + 1) % n) 0 : Nat) : Int), c (bs.getD i 0)) from fun i h => by rw [HAP.out]; simp [h])
  have HNN := Lib.hid hnn
  have HAE := Lib.hid hAR
  clear hnn hAR HAP
  clear ho hu hX hY hc hne hbs hi hz0 hz1 hz2
  go_enter Try.func55, Try.ntmps55
  go_wp2_with (fail)
  go_region_held3 (fun w' => w'.rangeAt g 0 X ∧ OwnA w' g L ∧ Below w.heap.size w w')
    (first | assumption | exact keepX (by assumption) HX (by assumption) | exact keepX (Below.refl _ _).drew HX (by assumption) | exact keepX (Below.refl _ _).drew HX ⟨HX.out _ HO.out, HO.out, Below.refl _ _⟩ | exact ⟨HX.out _ HO.out, HO.out, Below.refl _ _⟩)
    (first
      | (go_at_call 62; refine (HTN.out _ (by have hS : OwnA _ g L := (by assumption : _ ∧ OwnA _ g L ∧ _).2.1; exact hS)).mono ?_; rintro e w3 ⟨rfl, hb⟩))
  rename_i hH
  obtain ⟨-, hO, hB⟩ := hH
  have HO3 := Lib.hid hO
  have HB3 := Lib.hid hB
  clear hb hO hB HO HX HTN HEQ hun hin
  go_wp2_with (first
    | (go_at_call 68; refine (HNU.out _ HO3.out).mono ?_; rintro e w4 ⟨v, rfl, hn, hb⟩; refine Hid.out ?_))
  refine Lib.hid ?_
  have HB4 := Lib.hid (Below.next HB3.out hb)
  have HO4 := Lib.hid (HO3.out.below hb)
  have hn2 : w4.ownsRow w3.heap.size 2 1 v n (intR (bs.map fun (d : Nat) => (d : Int))) := by
    have h := hn
    unfold OwnN at h
    rwa [List.length_map, ← HNN.out] at h
  obtain ⟨g2, cap, rfl⟩ : ∃ g cap, v = .slice (some ⟨g, 0, none⟩) n cap := by
    rcases hn.form with ⟨_, h⟩ | ⟨g, cap, h1, h2⟩
    · have := congrArg List.length h
      rw [List.length_map, ← HNN.out] at this
      simp at this; omega
    · exact ⟨g, cap, by rw [h1, List.length_map, ← HNN.out]⟩
  have HN4 := Lib.hid (show ∀ i, i < n → w4.cell? ⟨g2, i, none⟩ = some (.int .i64 ((bs.getD i 0 : Nat) : Int)) from fun i h => by
    refine (World.ownsRow.cellAt hn2 i (by omega)).trans ?_
    have hi : i < bs.length := by rw [← HNN.out]; exact h
    simp [intR, hi])
  obtain ⟨hi, hz0, hz1, hz2⟩ := HI.out
  clear hn hb hn2 HO3 HB3 HNU
  go_wp2_with (at_make; refine wpList_make_full _ rfl _ _ 32 rfl w4.heap.size 26 i0 (.agg #[.int .i64 0, .int .i64 0, .string ⟨#[]⟩]) 3 Try.underlying32 hi hz0 hz1 _ _ _ _ n rfl rfl rfl rfl (by rw [hz2]; omega) (by unfold maxLen; omega) (Nat.le_refl _) ?_)
  intro w5 hown hg
  have hb : Below w4.heap.size w4 w5 := (Below.refl _ _).grown hg (Nat.le_refl _) (fun k hk => by cases hk)
  obtain ⟨xs0, hx0⟩ : ∃ xs0, xs0 = (madeCells #[Value.int .i64 0, Value.int .i64 0, Value.string ⟨#[]⟩] (n * 3)).toList := ⟨_, rfl⟩
  rw [← hx0] at hown
  have hl0 : xs0.length = n * 3 := by have := hown.1; omega
  have HO5 := Lib.hid hown
  have HB5 := Lib.hid hb
  clear hown hg hb hx0 hi hz0 hz1 hz2
  go_wp2_with (fail)
  go_loopw [5, 6, 27] (fun a b i wr => ∃ (k : Nat) (xs : List Value), k ≤ n ∧ i = .int .i64 k ∧ SecUpto xs (k * 3) (secV AR) ∧ wr.ownsRow w4.heap.size 26 3 (.slice (some ⟨w4.heap.size, 0, none⟩) n n) n xs ∧ Below w4.heap.size w4 wr) (fun _ _ i _ => n - (intOf i).toNat)
  case atStart => exact ⟨0, xs0, Nat.zero_le _, rfl, ⟨by rw [secV_len, HAL.out]; exact hl0, fun j hj => by omega⟩, HO5.out, HB5.out⟩
  case round =>
    obtain ⟨k, xs, hk, rfl, hup, hown, hbel⟩ := hrel
    have HU := Lib.hid hup
    have HOW := Lib.hid hown
    have HBE := Lib.hid hbel
    clear hup hown
    by_cases hlt : k < n
    · obtain ⟨m, hm⟩ : ∃ m : Nat, m = (k + 1) % n := ⟨_, rfl⟩
      have hm1 : m < n := by rw [hm]; exact Nat.mod_lt _ hb0
      have hidx : ((k : Int) + 1).tmod (n : Int) = (m : Int) := by rw [Int.tmod_eq_emod_of_nonneg (by omega), hm]; rfl
      have hsw : IntKind.i64.wrap ((k : Int) + 1) = (k : Int) + 1 := IntWalk.i64_in _ (by omega)
      have hjw : IntKind.i64.wrap (m : Int) = (m : Int) := IntWalk.i64_in _ (by omega)
      have hnz : ¬ (n : Int) = 0 := by omega
      have hkn : (k : Int) < (n : Int) := by omega
      have hmn : (m : Int) < (n : Int) := by omega
      have h0m : (0 : Int) ≤ (m : Int) := by omega
      have c0 := cell_below (HN4.out k hlt) hbel
      have c1 := cell_below (HN4.out m hm1) hbel
      have c2 := cell_below (HCL.out _ HO4.out _ (HBT.out k hlt)) hbel
      have hb3 : ((bs.getD k 0 : Nat) : Int) < 360 := by have := HBT.out k hlt; omega
      have hb4 : (0 : Int) ≤ ((bs.getD k 0 : Nat) : Int) := by omega
      obtain ⟨v0, v1, v2⟩ := secV_at AR k (by rw [HAL.out]; exact hlt)
      have hlen := secV_len AR
      have hal := HAL.out
      rw [HAT.out k hlt, ← hm] at v0 v1 v2
      simp only at v0 v1 v2
      generalize bs.getD k 0 = b at *
      generalize bs.getD m 0 = t at *
      generalize c b = s at *
      have u1 := HU.out.step (u := .int .i64 (b : Int)) (by omega) v0
      have u2 := u1.step (u := .int .i64 (t : Int)) (by omega) v1
      have u3 := u2.step (u := .string s) (by omega) v2
      have HU2 := Lib.hid u3
      clear u1 u2 u3 v0 v1 v2 hbel hlen hal hm hm1
      have hxl : xs.length = n * 3 := by have := HU.out.1; rw [secV_len, HAL.out] at this; exact this
      have ho2 : wr.drew.ownsRow w4.heap.size 26 3 (.slice (some ⟨w4.heap.size, 0, none⟩) n n) n xs := HOW.out
      obtain ⟨z0, o0⟩ : ∃ z, wr.cell? ⟨w4.heap.size, k * 3, none⟩ = some z := ⟨_, (HOW.out.cellAt (k * 3) (by omega)).trans (List.getElem?_eq_getElem (by omega))⟩
      obtain ⟨z1, o1⟩ : ∃ z, wr.cell? ⟨w4.heap.size, k * 3 + 1, none⟩ = some z := ⟨_, (HOW.out.cellAt (k * 3 + 1) (by omega)).trans (List.getElem?_eq_getElem (by omega))⟩
      obtain ⟨z2, o2⟩ : ∃ z, wr.cell? ⟨w4.heap.size, k * 3 + 2, none⟩ = some z := ⟨_, (HOW.out.cellAt (k * 3 + 2) (by omega)).trans (List.getElem?_eq_getElem (by omega))⟩
      have f0 := HOW.out.frozenAt (k * 3)
      have f1 := HOW.out.frozenAt (k * 3 + 1)
      have f2 := HOW.out.frozenAt (k * 3 + 2)
      have HST := Lib.hid (((ho2.stored (k * 3) (.int .i64 (b : Int))).1.stored (k * 3 + 1) (.int .i64 (t : Int))).1.stored (k * 3 + 2) (.string s)).1
      have HB2 := Lib.hid (((HBE.out.drew.setCell (p := ⟨w4.heap.size, k * 3, none⟩) (Nat.le_refl _) (.int .i64 (b : Int))).setCell (p := ⟨w4.heap.size, k * 3 + 1, none⟩) (Nat.le_refl _) (.int .i64 (t : Int))).setCell (p := ⟨w4.heap.size, k * 3 + 2, none⟩) (Nat.le_refl _) (.string s))
      clear ho2 hxl
      go_wp2_with (fail)
      go_region
      go_wp2_with (fail)
      go_roundw
      case rel => exact ⟨k + 1, _, by omega, by go_num, by rw [show (k + 1) * 3 = k * 3 + 1 + 1 + 1 by omega]; exact HU2.out, HST.out, HB2.out⟩
      case measure => simp [intOf]; omega
    · obtain rfl : k = n := by omega
      have HF := Lib.hid (show OwnSec wr w4.heap.size (.slice (some ⟨w4.heap.size, 0, none⟩) k k) AR by
        have hx : xs = secV AR := by
          have h := HU.out
          rw [← HAL.out, ← secV_len] at h
          exact h.all
        have h := HOW.out
        unfold OwnSec
        rw [HAL.out, ← hx]
        exact h)
      clear hbel
      go_wp2_with (fail)
      go_ret
      exact ⟨_, rfl, by rw [← HAE.out]; exact HF.out.mono HB4.out.size, HB4.out.trans (HBE.out.mono HB4.out.size)⟩
end Go.Proofs.Ytclbpjjnhfllkaa
