/- The text of a channel: the model's. -/
import Derived.Test.YtcoldhdghcdaeabDoorCtxM
namespace Go.Proofs.YtcoldhdghcdaeabDoor
open Go.ChangeShapes Go.WideShapes Go.ChangeAt Go.RowKit Pm

theorem one32 : (⟨#[32]⟩ : ByteArray).size = 1 := rfl
theorem arr_size (l : List UInt8) : (⟨l.toArray⟩ : ByteArray).size = l.length := by simp [ByteArray.size]
set_option maxRecDepth 100000 in
set_option maxHeartbeats 4000000 in
theorem sctx_any (b : Nat) (s : ByteArray) (z : Int) (v : Value) (ps : Pts) (w : World) (hok : okC s ps z = true) (h : PtsL w v ps) (hc : ChnAt w b s v z) :
    Calls Tryd.prog 11 #[.pointer (some ⟨b, 0, none⟩)] w fun e w' => e = .returned (.string ⟨(ctxJ s z ps).toArray⟩) ∧ Below w.heap.size w w' := by
  obtain ⟨hs, l2, l12, hpts, z0, z1, _⟩ := okC_parts hok
  have HSZ := Lib.hid (ctx_size hok)
  have HPTS := Lib.hid hpts
  have zz := itoaz_size z0 z1
  have HD := Lib.hid (fun w' => show Calls Tryd.prog 21 #[.int .i64 z] w' fun e w'' => e = .returned (.string (itoaS z)) ∧ Below w'.heap.size w' w'' from sdec_any z w' (by omega) (by omega))
  have HT := Lib.hid (fun p w' (hp : okB p = true) => (ptText_size (x := p.1) (y := p.2) hp).2 ▸ stext_any p.1 p.2 w' hp)
  obtain ⟨a, c, rfl, h⟩ := h
  obtain ⟨bb, off, rfl, hp⟩ : ∃ bb off, a = some ⟨bb, off, none⟩ ∧ ∀ i, i < ps.length → w.cell? ⟨bb, off + i * 2, none⟩ = some (.int .i64 (ps.getD i (0, 0)).1) ∧ w.cell? ⟨bb, off + i * 2 + 1, none⟩ = some (.int .i64 (ps.getD i (0, 0)).2) := by
    rcases h with ⟨_, rfl⟩ | ⟨bb, off, cap, hv, _, hp⟩
    · simp at l2
    · simp at hv; exact ⟨bb, off, hv.1, hp⟩
  have HP := Lib.hid hp
  have HAT := Lib.hid hc
  have HJ0 := Lib.hid (show s ++ ⟨#[32]⟩ ++ itoaS z = ⟨(ctxJ s z (ps.take 0)).toArray⟩ from WideShapes.bytes_inj (by
    rw [List.take_zero, ctxJ_nil]; simp [ByteArray.data_append]))
  have HJS := Lib.hid (fun k (hk : k < ps.length) => show ctxJ s z (ps.take (k + 1)) = ctxJ s z (ps.take k) ++ [32] ++ (ptText (ps.getD k (0, 0)).1 (ps.getD k (0, 0)).2).data.toList by rw [pts_take ps k hk, ctxJ_snoc])
  obtain ⟨n, hn⟩ : ∃ n, n = ps.length := ⟨_, rfl⟩
  have HN := Lib.hid hn
  rw [← hn] at HAT l12
  obtain ⟨u, hu⟩ : ∃ u, u = itoaS z := ⟨_, rfl⟩
  rw [← hu] at HD zz HJ0
  have o32 := one32
  have q1 := fun w => run_string_add_sum (P := Tryd.prog) (w := w) s ⟨#[32]⟩ (by omega)
  have q2 := fun w => run_string_add_sum (P := Tryd.prog) (w := w) (s ++ ⟨#[32]⟩) u (by simp only [ByteArray.size_append]; omega)
  obtain ⟨c0, c1, c2⟩ := HAT.out
  clear hn hc h hp hok hpts hu c1 l2
  have hbr : Below w.heap.size w w := Below.refl _ _
  go_enter Tryd.func11, Tryd.ntmps11
  go_wp2_with (fail)
  obtain ⟨S, hcl, hS0, k0, k1, k2, kB⟩ := clx3 c0 c2 c2 hbr
  have hne : Nonempty (Clx S) := ⟨⟨_, hS0⟩⟩
  clear c0 c2 hbr
  refine wp_region_clx S (by kernel_rfl) (by kernel_rfl) hS0 ?_
  repeat (go_big_quiet_step ((go_at_call 21; exact Clx.call hcl _ (HD.out _))))
  refine wpQuiet_nil ?_
  intro _ hw'
  obtain ⟨p, rfl⟩ := hw'
  have HB0 := Lib.hid (kB p)
  clear hS0 kB k0 k1 k2 hne hcl q1 q2
  go_wp2_with (fail)
  go_loopw [3, 4] (fun o i wr => ∃ (k : Nat), k ≤ n ∧ i = .int .i64 k ∧ o = .string ⟨(ctxJ s z (ps.take k)).toArray⟩ ∧ Below w.heap.size w wr) (fun _ i _ => n - (intOf i).toNat)
  case atStart => exact ⟨0, Nat.zero_le _, rfl, by rw [HJ0.out], HB0.out⟩
  case round =>
    obtain ⟨k, hk, rfl, rfl, hbel⟩ := hrel
    have HB := Lib.hid hbel
    clear hbel
    obtain ⟨c0, c1, c2⟩ := HAT.out.below HB.out
    by_cases hlt : k < n
    · have hkn : (k : Int) < (n : Int) := by omega
      have hkl : k < ps.length := by have := HN.out; omega
      have d0 := cell_below (HP.out k hkl).1 HB.out
      have d1 := cell_below (HP.out k hkl).2 HB.out
      have HS2 := Lib.hid (HJS.out k hkl)
      have HTK := Lib.hid (fun w' => HT.out (ps.getD k (0, 0)) w' (HPTS.out k hkl))
      have tz := (ptText_size (x := (ps.getD k (0, 0)).1) (y := (ps.getD k (0, 0)).2) (HPTS.out k hkl)).1
      have cz := HSZ.out k
      generalize ptText (ps.getD k (0, 0)).1 (ps.getD k (0, 0)).2 = t at *
      generalize (ps.getD k (0, 0)).1 = x at *
      generalize (ps.getD k (0, 0)).2 = y at *
      rw [← arr_size] at cz
      have HE := Lib.hid (show (⟨(ctxJ s z (ps.take k)).toArray⟩ : ByteArray) ++ (⟨#[32]⟩ ++ t) = ⟨(ctxJ s z (ps.take (k + 1))).toArray⟩ from WideShapes.bytes_inj (by
        rw [HS2.out]; simp [ByteArray.data_append]))
      generalize (⟨(ctxJ s z (ps.take k)).toArray⟩ : ByteArray) = o at *
      have q1 := fun w => run_string_add_sum (P := Tryd.prog) (w := w) ⟨#[32]⟩ t (by omega)
      have q2 := fun w => run_string_add_sum (P := Tryd.prog) (w := w) o (⟨#[32]⟩ ++ t) (by simp only [ByteArray.size_append]; omega)
      clear hkl HS2 cz tz
      go_wp2_with (go_at_call 22; (refine (HTK.out _).mono ?_); rintro e w2 ⟨rfl, hb⟩; have AC := Lib.hid (Below.next HB.out hb); clear hb)
      go_roundw
      case rel => exact ⟨k + 1, by omega, by go_num, by rw [HE.out], AC.out⟩
      case measure => simp [intOf]; omega
    · have HE := Lib.hid (show (⟨(ctxJ s z (ps.take k)).toArray⟩ : ByteArray) = ⟨(ctxJ s z ps).toArray⟩ by rw [List.take_of_length_le (by have := HN.out; omega)])
      obtain rfl : k = n := by omega
      go_wp2
      go_ret
      exact ⟨retS HE.out, HB.out⟩
theorem schntext_any (s : ByteArray) (z : Int) (v : Value) (ps : Pts) (w : World) (hs : s.size ≤ maxLen) (hm : ps.length ≤ 1048576) (h : PtsL w v ps) :
    Calls Tryd.prog 5 #[.agg #[.string s, v, .int .i64 z]] w fun e w' => e = .returned (.string (ctxT s z ps)) ∧ Below w.heap.size w w' := by
  have HO := Lib.hid (fun b w' h1 h2 => sokchn_any b s z v ps w' hs hm h1 h2)
  have HX := Lib.hid (fun b w' hok h1 h2 => sctx_any b s z v ps w' hok h1 h2)
  have HP := Lib.hid h
  obtain ⟨a, c, rfl⟩ := pts_len h
  clear h
  cases hok : okC s ps z
  · have HT := Lib.hid (show ctxT s z ps = ⟨#[]⟩ by unfold ctxT; rw [hok]; rfl)
    rw [hok] at HO
    clear HX hok
    go_enter Tryd.func5, Tryd.ntmps5
    go_wp2_with (go_at_call 10; (refine (HO.out _ _ (HP.out.below (by go_grown)) (ChnAt.new s _ z _ rfl)).mono ?_); rintro e w1 ⟨rfl, hb⟩; have AC := Lib.hid (Below.next (a := w) (by go_grown) hb); clear hb)
    go_ret
    exact ⟨retS HT.out.symm, AC.out⟩
  · have HT := Lib.hid (show ctxT s z ps = ⟨(ctxJ s z ps).toArray⟩ by unfold ctxT; rw [hok]; rfl)
    rw [hok] at HO
    have HX := Lib.hid (fun b w' h1 h2 => HX.out b w' hok h1 h2)
    obtain ⟨t, ht⟩ : ∃ t : ByteArray, t = ⟨(ctxJ s z ps).toArray⟩ := ⟨_, rfl⟩
    rw [← ht] at HT HX
    clear hok ht
    go_enter Tryd.func5, Tryd.ntmps5
    go_wp2_with (go_at_call 10; (refine (HO.out _ _ (HP.out.below (by go_grown)) (ChnAt.new s _ z _ rfl)).mono ?_); rintro e w1 ⟨rfl, hb⟩; refine Hid.out ?_)
    refine Lib.hid ?_
    have XA := Lib.hid ((ChnAt.new (w := w) (T := 29) s (.slice a ps.length c) z _ rfl).below hb)
    have AC := Lib.hid (Below.next (a := w) (by go_grown) hb)
    clear hb
    go_wp2_with (go_at_call 11; (refine (HX.out _ _ (HP.out.below AC.out) XA.out).mono ?_); rintro e w2 ⟨rfl, hb⟩; have AC2 := Lib.hid (Below.next AC.out hb); clear hb)
    go_ret
    exact ⟨retS HT.out.symm, AC2.out⟩
end Go.Proofs.YtcoldhdghcdaeabDoor
