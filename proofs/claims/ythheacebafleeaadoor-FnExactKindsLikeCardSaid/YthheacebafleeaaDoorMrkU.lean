/- Kinds of marks that look like some words: the model's. -/
import Derived.Test.YthheacebafleeaaDoorMrkI
import Derived.Test.YthheacebafleeaaDoorMrkH0
namespace Go.Proofs.YthheacebafleeaaDoor
open Go.ChangeShapes Go.WideShapes Go.ChangeAt Go.RowKit Pm

theorem OwnN.empty (w : World) (B n : Nat) (h : n = w.heap.size) (hB : B ≤ n) : OwnN (w.alloc (.cells #[] 2)) B (.slice (some ⟨n, 0, Option.none⟩) 0 0) [] := by
  subst h
  refine ⟨rfl, .inr ⟨_, 0, #[], rfl, hB, ?_, Nat.le_refl _, by decide, rfl, rfl⟩⟩
  show (w.heap.push _)[w.heap.size]? = some _
  exact Array.getElem?_push_size
theorem like_is {k : Int} (h1 : inB 1 9 [k] = true) (c s t : ByteArray) : likeB k c s t = (((c.toList == ([] : List UInt8)) || (c.toList == (mkF k 1).toList)) && (fitB s (mkShapes k) && fitB t [mkF k 3])) := by
  unfold likeB; rw [h1, fit_one]; rfl
theorem nret {a b : Value} (h : a = b) : Ending.returned a = .returned b := by rw [h]
set_option maxRecDepth 100000 in
set_option maxHeartbeats 2000000 in
theorem skinds_any (c s t : ByteArray) (w : World) :
    Calls Tryd.prog 24 #[.string c, .string s, .string t] w fun e w' => ∃ v, e = .returned v ∧ OwnN w' w.heap.size v (likN (fun (k : Nat) => likeB k c s t) 10) ∧ Below w.heap.size w w' := by
  obtain ⟨p, hp⟩ : ∃ p : Nat → Bool, p = fun (k : Nat) => likeB k c s t := ⟨_, rfl⟩
  have hin : ∀ k : Nat, 1 ≤ k → k ≤ 9 → inB 1 9 [(k : Int)] = true := fun k h1 h2 => inb_in (by omega)
  have HI := Lib.hid hin
  have HPE := Lib.hid (fun (k : Nat) (h1 : 1 ≤ k) (h2 : k ≤ 9) => show p k = (((c.toList == ([] : List UInt8)) || (c.toList == (mkF (k : Int) 1).toList)) && (fitB s (mkShapes (k : Int)) && fitB t [mkF (k : Int) 3])) by rw [hp]; exact like_is (hin k h1 h2) c s t)
  have HZ := Lib.hid (show likN p 1 = [] by rw [hp]; unfold likN likeB; rfl)
  rw [← hp]
  have HST := Lib.hid (fun k => likN_step p k)
  have HLN := Lib.hid (fun k => likN_len p k)
  clear hp hin
  go_enter Tryd.func24, Tryd.ntmps24
  go_wp2_with (fail)
  go_loopw [7, 8] (fun v i wr => ∃ (k : Nat), 1 ≤ k ∧ k ≤ 10 ∧ i = .int .i64 k ∧ OwnN wr w.heap.size v (likN p k) ∧ Below w.heap.size w wr) (fun _ i _ => 10 - (intOf i).toNat)
  case atStart => exact ⟨1, Nat.le_refl _, by omega, rfl, by rw [HZ.out]; exact OwnN.empty _ _ _ rfl (Nat.le_refl _), by go_grown⟩
  case round =>
    obtain ⟨k, hk1, hk, rfl, hown, hbel⟩ := hrel
    have HW := Lib.hid hown
    have HB := Lib.hid hbel
    by_cases hlt : k ≤ 9
    · have hkn : (k : Int) ≤ 9 := by omega
      have HC := Lib.hid (fun w => smkcolors_any (k : Int) w (HI.out k hk1 hlt))
      have HL := Lib.hid (fun B w h => slike_any B (k : Int) c s t w h (HI.out k hk1 hlt))
      have HP := Lib.hid (HPE.out k hk1 hlt)
      have hln := HLN.out k
      have hsz := hbel.size
      clear hown hbel
      obtain ⟨x, hx⟩ : ∃ x, x = (fitB s (mkShapes (k : Int)) && fitB t [mkF (k : Int) 3]) := ⟨_, rfl⟩
      rw [← hx] at HL HP
      clear hx
      generalize mkF (k : Int) 1 = s1 at *
      have HS1 := Lib.hid (HST.out k)
      have HWA := Lib.hid (fun o => HW.out.below ((Below.refl wr.heap.size wr).alloc (Nat.le_refl _) o))
      have HBA := Lib.hid (fun o => HB.out.alloc HB.out.size o)
      cases hc : (c.toList == ([] : List UInt8))
      case' false => cases hc1 : (c.toList == s1.toList)
      all_goals cases x
      all_goals
        first | rw [hc] at HP | skip
        first | rw [hc1] at HP | skip
        first
          | (have HR := Lib.hid (show likN p (k + 1) = likN p k by rw [HS1.out, HP.out]; rfl))
          | (have HR := Lib.hid (show likN p (k + 1) = likN p k ++ [(k : Int)] by rw [HS1.out, HP.out]; rfl))
        clear HS1 HP
      all_goals
        go_wp2_with (first
          | (go_at_call 38; refine (HC.out _).mono ?_; rintro e w2 ⟨rfl, hb2⟩; have HX := Lib.hid ((MarkCells.new wr _ _ rfl (k : Int) c s t).below hb2); have HW2 := Lib.hid ((HWA.out _).below hb2); have HB2 := Lib.hid (Below.next (HBA.out _) hb2); clear hb2)
          | (go_at_call 46; refine (HL.out _ _ HX.out).mono ?_; rintro e w3 ⟨rfl, hb3⟩; have HW3 := Lib.hid (HW2.out.below hb3); have HB3 := Lib.hid (Below.next HB2.out hb3); clear hb3)
          | (go_at_call 46; refine (HL.out _ _ (MarkCells.new wr _ _ rfl (k : Int) c s t)).mono ?_; rintro e w3 ⟨rfl, hb3⟩; have HW3 := Lib.hid ((HWA.out _).below hb3); have HB3 := Lib.hid (Below.next (HBA.out _) hb3); clear hb3)
          | (at_builtin; (refine wpList_app_n rfl _ _ w.heap.size _ (likN p k) (k : Int) w w3 _ HW3.out HB3.out (Nat.le_refl _) (by omega) rfl rfl _ (by simp) rfl ?_)))
        first
          | (intro v' w4 h4 hb4
             have HO4 := Lib.hid h4
             have HB4 := Lib.hid hb4
             clear h4 hb4
             go_wp2_with (fail)
             go_roundw
             case rel => exact ⟨k + 1, by omega, by omega, by go_num, by rw [HR.out]; exact HO4.out, HB4.out⟩
             case measure => simp [intOf]; omega)
          | (go_roundw
             case rel => exact ⟨k + 1, by omega, by omega, by go_num, by rw [HR.out]; first | exact HW3.out | exact HW2.out, by first | exact HB3.out | exact HB2.out⟩
             case measure => simp [intOf]; omega)
    · obtain rfl : k = 10 := by omega
      clear hown hbel
      go_wp2_with (fail)
      go_ret
      exact ⟨_, rfl, HW.out, HB.out⟩
end Go.Proofs.YthheacebafleeaaDoor
