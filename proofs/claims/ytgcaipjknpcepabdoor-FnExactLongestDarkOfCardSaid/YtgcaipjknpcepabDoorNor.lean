/- The least rotation: the program's function. -/
import Derived.Test.YtgcaipjknpcepabDoorNorM
import Derived.Test.YtgcaipjknpcepabDoorPeri
namespace Go.Proofs.YtgcaipjknpcepabDoor
open Go.ChangeShapes Go.WideShapes Go.ChangeAt Go.RowKit Pm

theorem leastp_any (g : Nat) (x y : ByteArray) (w : World) (hc : w.cell? ⟨g, 0, none⟩ = some (.string y)) :
    Calls Tryd.prog 53 #[.string x, .slice (some ⟨g, 0, none⟩) 1 1] w fun e w' => e = .returned (.string (if Op.bytesLess y.toList x.toList then y else x)) ∧ w = w' := by
  cases hb : Op.bytesLess y.toList x.toList
  · go_enter Tryd.func53, Tryd.ntmps53
    go_wp2
    go_rounds 2
    go_ret
    exact ⟨rfl, rfl⟩
  · go_enter Tryd.func53, Tryd.ntmps53
    go_wp2
    go_rounds 2
    go_ret
    exact ⟨rfl, rfl⟩
/-- A piece of the doubled picture. -/
theorem twice_ext {T : List UInt8} (h : 1 ≤ T.length) (b : Nat) (hb : b < perL T) :
    ((⟨T.toArray⟩ : ByteArray) ++ (⟨T.toArray⟩ : ByteArray)).extract b (b + perL T) = ⟨(rotL (onceL T) b).toArray⟩ := by
  have hp := perL_is T h
  have hle := hp.le
  have e : (⟨T.toArray⟩ : ByteArray) ++ (⟨T.toArray⟩ : ByteArray) = ⟨(T ++ T).toArray⟩ := by
    refine WideShapes.bytes_inj ?_
    simp [ByteArray.data_append]
  rw [e, ext_eq]
  refine congrArg (fun l : List UInt8 => (⟨l.toArray⟩ : ByteArray)) (List.ext_getElem ?_ fun i h1 h2 => ?_)
  · rw [rotL_len, once_len h, List.length_take, List.length_drop, List.length_append]; omega
  · rw [rotL_len, once_len h] at h2
    rw [rot_get (onceL T) b i (by rw [once_len h]; omega) (by rw [once_len h]; exact h2), show ever (onceL T) (i + b) = ever T (i + b) from (ever_once h _).symm]
    have hx : (T ++ T)[i + b]? = some (ever T (i + b)) := by
      by_cases q : i + b < T.length
      · rw [List.getElem?_append_left q, ever_lt T _ q, List.getElem?_eq_getElem]
      · have e2 : ever T (i + b) = ever T (i + b - T.length) := by
          have := ever_len T (i + b - T.length)
          rw [show i + b - T.length + T.length = i + b by omega] at this
          exact this
        rw [List.getElem?_append_right (by omega), List.getElem?_eq_getElem (by omega), e2, ever_lt T _ (by omega)]
    have hg : (((T ++ T).drop b).take (b + perL T - b))[i]? = some (ever T (i + b)) := by
      rw [List.getElem?_take, if_pos (by omega), List.getElem?_drop, Nat.add_comm b i, hx]
    rw [List.getElem?_eq_getElem h1] at hg
    exact Option.some.inj hg
theorem twice_get {T : List UInt8} (h : 1 ≤ T.length) (d : ByteArray) (hd : d = (⟨T.toArray⟩ : ByteArray) ++ (⟨T.toArray⟩ : ByteArray)) (k : Nat) (hk : k < perL T) (h2 : k < d.size) : d[k] = (onceL T).getD k 45 := by
  have hle := (perL_is T h).le
  have e : (⟨T.toArray⟩ : ByteArray) ++ (⟨T.toArray⟩ : ByteArray) = ⟨(T ++ T).toArray⟩ := by
    refine WideShapes.bytes_inj ?_
    simp [ByteArray.data_append]
  rw [e] at hd
  subst hd
  have hg : (onceL T).getD k 45 = T[k] := by
    unfold onceL
    rw [List.getD_eq_getElem?_getD, List.getElem?_take, if_pos hk, List.getElem?_eq_getElem (by omega)]; rfl
  rw [hg]
  show (T ++ T).toArray[k] = _
  simp [List.getElem_append_left (show k < T.length by omega)]
set_option maxRecDepth 100000 in
set_option maxHeartbeats 1000000 in
theorem normal_any (T : List UInt8) (w : World) (hp : 1 ≤ T.length) (hq : T.length ≤ 600) (hl : LenAt w) :
    Calls Tryd.prog 33 #[.string ⟨T.toArray⟩] w fun e w' => e = .returned (.string ⟨(normL (onceL T)).toArray⟩) ∧ Below w.heap.size w w' := by
  have HX := Lib.hid (fun b hb => twice_ext hp b hb)
  have HP := Lib.hid (fun w h => period_any T w hp hq h)
  have hr := perL_is T hp
  have hz1 := hr.pos
  have hz2 := hr.le
  have hol := once_len hp
  have HE := Lib.hid (fun i => ever_once hp i)
  have hz := pic_size T
  obtain ⟨s, hs⟩ : ∃ s, s = (⟨T.toArray⟩ : ByteArray) := ⟨_, rfl⟩
  rw [← hs] at hz HX HP ⊢
  have k1 := fun w => run_string_add_sum (P := Tryd.prog) (w := w) s s (by omega)
  have hss : (s ++ s).size = s.size + s.size := ByteArray.size_append
  obtain ⟨d, hd⟩ : ∃ d, d = s ++ s := ⟨_, rfl⟩
  have HD := Lib.hid (fun k hk h2 => twice_get hp d (by rw [hd, hs]) k hk h2)
  obtain ⟨P, hPP⟩ : ∃ P, P = onceL T := ⟨_, rfl⟩
  obtain ⟨z, hzz⟩ : ∃ z, z = perL T := ⟨_, rfl⟩
  rw [← hd] at k1 hss HX
  rw [← hPP] at hol HX HD ⊢
  rw [← hzz] at HX HP hz1 hz2 hol HD
  have HS := Lib.hid (norm_starts P (by omega))
  have HL := Lib.hid hl
  have HX0 := Lib.hid (HX.out 0 (by omega))
  rw [Nat.zero_add] at HX0
  clear hr hs hd hPP hzz hl
  have hzd : (z : Int) ≤ (d.size : Int) := by omega
  have hzz2 : z + z ≤ d.size := by omega
  go_enter Tryd.func33, Tryd.ntmps33
  go_wp2_with (go_at_call 52; refine (HP.out _ HL.out).mono ?_; rintro e w1 ⟨rfl, nn, rfl⟩)
  go_loopw [5, 6] (fun f i wr => ∃ (j b : Nat), j + 1 ≤ z ∧ f = .string ⟨(rotL P b).toArray⟩ ∧ i = .int .i64 ((j : Int) + 1) ∧ b < z ∧ (∀ m, m < j + 1 → (m = 0 ∨ P.getD m 45 ≠ P.getD (m - 1) 45) → numB (rotL P b) ≤ numB (rotL P m)) ∧ Below w.heap.size w wr) (fun _ i _ => z - (intOf i).toNat)
  case atStart => exact ⟨0, 0, by omega, congrArg Value.string HX0.out, rfl, by omega, fun m hm _ => by rw [show m = 0 by omega]; exact Nat.le_refl _, below_drewN (Below.refl _ _) _⟩
  case round =>
    obtain ⟨j, b, hj, rfl, rfl, hb, hmin, hbel⟩ := hrel
    have HM := Lib.hid hmin
    have HB := Lib.hid hbel
    clear hmin hbel
    by_cases hlt : j + 1 < z
    · have hjn : (j : Int) + 1 < (z : Int) := by omega
      have hjd : (j : Int) + 1 < (d.size : Int) := by omega
      have hjd0 : (j : Int) < (d.size : Int) := by omega
      have hj0 : (0 : Int) ≤ (j : Int) + 1 := by omega
      clear hss hz
      have hd1 : j + 1 < d.size := by omega
      have hd0 : j < d.size := by omega
      have HA := Lib.hid (HD.out (j + 1) hlt hd1)
      have HB0 := Lib.hid (HD.out j (by omega) hd0)
      have HXJ := Lib.hid (HX.out (j + 1) hlt)
      by_cases hne : d[j + 1] = d[j]
      · have hbn : (((d[j + 1]).toNat : Int) != ((d[j]).toNat : Int)) = false := by rw [hne]; simp
        have HNE := Lib.hid (show P.getD (j + 1) 45 = P.getD j 45 by rw [← HA.out, ← HB0.out, hne])
        clear hne
        go_wp2_with (fail)
        go_quiet (fail)
        go_wp2
        refine ⟨⟨j + 1, b, by omega, rfl, rfl, hb, fun m hm hs => ?_, below_drewN HB.out _⟩, ?_⟩
        · by_cases e : m = j + 1
          · subst e
            rcases hs with q | q
            · omega
            · exact absurd HNE.out q
          · exact HM.out m (by omega) hs
        · show z - ((j : Int) + 1 + 1).toNat < z - ((j : Int) + 1).toNat
          omega
      · have hbn : (((d[j + 1]).toNat : Int) != ((d[j]).toNat : Int)) = true := by
          simp only [bne_iff_ne, ne_eq, Int.ofNat_inj]
          exact fun e => hne (UInt8.toNat_inj.1 e)
        clear hne HA HB0
        have hjs : (j : Int) + 1 + (z : Int) ≤ (d.size : Int) := by omega
        have hjz0 : (0 : Int) ≤ (j : Int) + 1 + (z : Int) := by omega
        have hjz1 : (j : Int) + 1 ≤ (j : Int) + 1 + (z : Int) := by omega
        obtain ⟨b2, hb2, HB2L, HV⟩ : ∃ b2, b2 < z ∧ Hid (numB (rotL P b2) ≤ numB (rotL P b) ∧ numB (rotL P b2) ≤ numB (rotL P (j + 1))) ∧
            Hid ((if Op.bytesLess (d.extract (j + 1) (j + 1 + z)).toList (rotL P b) = true then d.extract (j + 1) (j + 1 + z) else (⟨(rotL P b).toArray⟩ : ByteArray)) = ⟨(rotL P b2).toArray⟩) := by
          have hl := less_num (rotL P (j + 1)) (rotL P b) (by rw [rotL_len, rotL_len])
          rw [HXJ.out, ByteArray.toList_mk, hl]
          by_cases hc : numB (rotL P (j + 1)) < numB (rotL P b)
          · exact ⟨j + 1, hlt, Lib.hid ⟨by omega, Nat.le_refl _⟩, Lib.hid (if_pos (by simpa using hc))⟩
          · exact ⟨b, hb, Lib.hid ⟨Nat.le_refl _, by omega⟩, Lib.hid (if_neg (by simpa using hc))⟩
        go_wp2_with (fail)
        go_quiet (fail)
        go_wp2_with (go_at_call 53; refine (leastp_any _ _ _ _ (u8_cells _ _ _ 0 _ rfl)).mono ?_; rintro e w3 ⟨rfl, rfl⟩)
        refine ⟨⟨j + 1, b2, by omega, congrArg Value.string HV.out, rfl, hb2, fun m hm hs => ?_, (below_drewN HB.out _).alloc (by simp only [World.drewN]; exact HB.out.size) _⟩, ?_⟩
        · by_cases e : m = j + 1
          · subst e
            exact HB2L.out.2
          · exact Nat.le_trans HB2L.out.1 (HM.out m (by omega) hs)
        · show z - ((j : Int) + 1 + 1).toNat < z - ((j : Int) + 1).toNat
          omega
    · have hjn : ¬ (j : Int) + 1 < (z : Int) := by omega
      go_wp2_with (fail)
      go_ret
      obtain ⟨b2, h2, hs⟩ := HS.out
      have e1 := HM.out b2 (by have := h2.lt; omega) hs
      exact ⟨retS (congrArg (fun l : List UInt8 => (⟨l.toArray⟩ : ByteArray)) (IsNorm.rot ⟨by omega, fun i hi => by have := h2.least i hi; omega⟩)), HB.out⟩
end Go.Proofs.YtgcaipjknpcepabDoor
