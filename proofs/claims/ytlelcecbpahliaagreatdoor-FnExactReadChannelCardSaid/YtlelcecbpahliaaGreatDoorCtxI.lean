/- The text of a channel: the program's. -/
import Derived.Test.YtlelcecbpahliaaGreatDoorCtxM
import Derived.Deep.RegionWith
import Derived.Deep.CutRange
namespace Go.Proofs.YtlelcecbpahliaaGreatDoor
open Go.ChangeShapes Go.WideShapes Go.ChangeAt Go.RowKit Pm

theorem OwnSO.two {w : World} {T : Nat} (s u : ByteArray) (hT : T ≤ w.heap.size) (n : Nat) (hn : w.heap.size = n) : OwnSO (w.alloc (.cells #[.string s, .string u] 9)) T (.slice (some ⟨n, 0, Option.none⟩) 2 2) [s, u] := by
  subst hn
  exact World.ownsRow_lit (size := 1) (e := 9) (base := T) w #[.string s, .string u] 2 hT (by unfold maxLen; omega) rfl
set_option maxRecDepth 100000 in
set_option maxHeartbeats 4000000 in
theorem ctx_row (s : ByteArray) (z : Int) (bb off c : Nat) (ps : Pts) (w : World) (hok : okC s ps z = true) (hp : ∀ i, i < ps.length → w.cell? ⟨bb, off + i * 2, none⟩ = some (.int .i64 (ps.getD i (0, 0)).1) ∧ w.cell? ⟨bb, off + i * 2 + 1, none⟩ = some (.int .i64 (ps.getD i (0, 0)).2)) (hP : PowAt w)
    (HV : Hid (∀ w', Below w.heap.size w w' → Calls Tryz.prog 42 #[.agg #[.string s, .slice (some ⟨bb, off, none⟩) ps.length c, .int .i64 z]] w' fun e w'' => e = .returned (.bool true) ∧ Below w'.heap.size w' w'')) :
    Calls Tryz.prog 22 #[.agg #[.string s, .slice (some ⟨bb, off, none⟩) ps.length c, .int .i64 z]] w fun e w' => e = .returned (.string ⟨(ctxJ s z ps).toArray⟩) ∧ Below w.heap.size w w' := by
  obtain ⟨hs, l2, l12, hpts, z0, z1, _⟩ := okC_parts hok
  have HJL := Lib.hid (show (ctxJ s z ps).length ≤ 560 by have := ctx_size hok ps.length; rwa [List.take_length] at this)
  have HPTS := Lib.hid hpts
  have HPW := Lib.hid hP
  have zz := itoaz_size z0 z1
  have HD := Lib.hid (fun w' (hp : PowAt w') => show Calls Tryz.prog 50 #[.int .i64 z] w' fun e w'' => e = .returned (.string (itoaS z)) ∧ Below w'.heap.size w' w'' from decimal_any z w' (by omega) (by omega) hp)
  have HT := Lib.hid (fun x y w' (hp : PowAt w') => pointtext_any x y w' hp)
  have HPT := Lib.hid hp
  have HL0 := Lib.hid (show [s, itoaS z] = ctxL s z (ps.take 0) from rfl)
  have HLS := Lib.hid (fun k (hk : k < ps.length) => show ctxL s z (ps.take k) ++ [ptText (ps.getD k (0, 0)).1 (ps.getD k (0, 0)).2] = ctxL s z (ps.take (k + 1)) by rw [pts_take ps k hk, ctxL_snoc])
  obtain ⟨n, hn⟩ : ∃ n, n = ps.length := ⟨_, rfl⟩
  have HN := Lib.hid hn
  rw [← hn] at HV l12 l2 ⊢
  obtain ⟨u, hu⟩ : ∃ u, u = itoaS z := ⟨_, rfl⟩
  rw [← hu] at HD zz HL0
  clear hn hp hok hpts hu hP
  go_enter Tryz.func22, Tryz.ntmps22
  go_wp2_with (go_at_call 42; (refine (HV.out _ (by go_grown)).mono ?_); rintro e w1 ⟨rfl, hb⟩; refine Hid.out ?_)
  refine Lib.hid ?_
  have XA := Lib.hid (show ChnAt w1.drew w.heap.size s (.slice (some ⟨bb, off, none⟩) n c) z from (ChnAt.new (w := w) (T := 30) s _ z _ rfl).below hb.drew)
  have AC := Lib.hid (show Below w.heap.size w w1.drew from Below.next (a := w) (by go_grown) hb.drew)
  obtain ⟨x0, x1, x2⟩ := (ChnAt.new (w := w) (T := 30) s (.slice (some ⟨bb, off, none⟩) n c) z _ rfl).below hb
  clear hb HV
  go_wp2_with (fail)
  go_cut [3] from 9 to 14 (fun r wx => OwnSO wx w.heap.size r [s, u] ∧ ChnAt wx w.heap.size s (.slice (some ⟨bb, off, none⟩) n c) z ∧ Below w.heap.size w wx)
  case first =>
    go_region_with ((go_at_call 50; (with_reducible refine (HD.out _ (HPW.out.below AC.out)).mono ?_); rintro e w2 ⟨rfl, hb⟩; replace XA := Lib.hid (XA.out.below hb); replace AC := Lib.hid (Below.next AC.out hb); clear hb; obtain ⟨x0, x1, x2⟩ := XA.out))
    all_goals
      go_wp2_with (fail)
      go_meet
      exact ⟨OwnSO.two s u AC.out.size _ rfl, XA.out.below ((Below.refl _ _).alloc (Nat.le_refl _) _), AC.out.alloc AC.out.size _⟩
  case rest =>
    clear XA AC x0 x1 x2
    obtain ⟨ho, hx, hac⟩ := hcut
    have HO0 := Lib.hid ho
    have AC := Lib.hid hac
    obtain ⟨x0, x1, x2⟩ := hx
    clear ho hac
    go_wp2_with (fail)
    clear x0 x1 x2
    go_loopw [3, 18] (fun o i wr => ∃ (k : Nat), k ≤ n ∧ i = .int .i64 k ∧ OwnSO wr w.heap.size o (ctxL s z (ps.take k)) ∧ Below w.heap.size w wr) (fun _ i _ => n - (intOf i).toNat)
    case atStart => exact ⟨0, Nat.zero_le _, rfl, HL0.out ▸ HO0.out, AC.out⟩
    case round =>
      obtain ⟨k, hk, rfl, hown, hbel⟩ := hrel
      have HB := Lib.hid hbel
      have HOW := Lib.hid hown
      clear hbel hown
      by_cases hlt : k < n
      · have hkn : (k : Int) < (n : Int) := by omega
        have hkl : k < ps.length := by have := HN.out; omega
        have d0 := cell_below (HPT.out k hkl).1 HB.out
        have d1 := cell_below (HPT.out k hkl).2 HB.out
        have HS2 := Lib.hid (HLS.out k hkl)
        have hll : (ctxL s z (ps.take k)).length ≤ 1048577 := by rw [ctxL_len, List.length_take]; omega
        generalize (ps.getD k (0, 0)).1 = x at *
        generalize (ps.getD k (0, 0)).2 = y at *
        have HTK := Lib.hid (fun w' hp => HT.out x y w' hp)
        generalize ptText x y = t at *
        generalize ctxL s z (ps.take k) = L at *
        clear hkl
        go_wp2_with (first
          | (go_at_call 51; (refine (HTK.out _ (HPW.out.below (HB.out.alloc HB.out.size _))).mono ?_); rintro e w4 ⟨rfl, hb⟩; have HOW4 := Lib.hid ((HOW.out.below ((Below.refl _ _).alloc (Nat.le_refl _) _)).below hb); have HBK4 := Lib.hid (Below.next (HB.out.alloc HB.out.size _) hb); clear hb)
          | (at_builtin; (refine wpList_app_so rfl _ _ w.heap.size _ L t w _ _ HOW4.out HBK4.out (Nat.le_refl _) hll rfl rfl _ rfl rfl ?_)))
        intro v5 w5 h5 hb5
        have HO5 := Lib.hid h5
        have HB5 := Lib.hid hb5
        clear h5 hb5
        go_wp2
        go_roundw
        case rel => exact ⟨k + 1, by omega, by go_num, HS2.out ▸ HO5.out, HB5.out⟩
        case measure => simp [intOf]; omega
      · have HE := Lib.hid (show ps.take k = ps from List.take_of_length_le (by have := HN.out; omega))
        obtain rfl : k = n := by omega
        have hown := HOW.out
        rw [HE.out] at hown
        have HJ := Lib.hid (hown.join (by rw [ctxL_len]; omega) (by rw [ctxL_len]; have := HN.out; omega) ⟨#[32]⟩ (by have h1 := HJL.out; unfold ctxJ at h1; have : (⟨#[32]⟩ : ByteArray).data.toList = [32] := rfl; rw [this]; omega))
        have HR := Lib.hid (show (⟨(Lib.join ((ctxL s z ps).map (·.data.toList)) (⟨#[32]⟩ : ByteArray).data.toList).toArray⟩ : ByteArray) = ⟨(ctxJ s z ps).toArray⟩ from rfl)
        generalize (⟨(Lib.join ((ctxL s z ps).map (·.data.toList)) (⟨#[32]⟩ : ByteArray).data.toList).toArray⟩ : ByteArray) = T at *
        clear hown HOW
        go_wp2_with (go_at_call 52; refine HJ.out.mono ?_; rintro e w2 ⟨rfl, hb2⟩; have AC2 := Lib.hid (Below.next HB.out hb2); clear hb2)
        go_ret
        exact ⟨retS HR.out, AC2.out⟩
theorem chntext_any (s : ByteArray) (z : Int) (v : Value) (ps : Pts) (w : World) (hs : s.size ≤ maxLen) (hm : ps.length ≤ 1048576) (h : PtsL w v ps) (hP : PowAt w) :
    Calls Tryz.prog 22 #[.agg #[.string s, v, .int .i64 z]] w fun e w' => e = .returned (.string (ctxT s z ps)) ∧ Below w.heap.size w w' := by
  have HO := Lib.hid (fun w' (hb : Below w.heap.size w w') => validchn_any s z v ps w' hs hm (h.below hb))
  cases hok : okC s ps z
  · have HT := Lib.hid (show ctxT s z ps = ⟨#[]⟩ by unfold ctxT; rw [hok]; rfl)
    rw [hok] at HO
    obtain ⟨a, c, rfl⟩ := pts_len h
    clear hok h hP
    go_enter Tryz.func22, Tryz.ntmps22
    go_wp2_with (go_at_call 42; (refine (HO.out _ (by go_grown)).mono ?_); rintro e w1 ⟨rfl, hb⟩; have AC := Lib.hid (Below.next (a := w) (by go_grown) hb); clear hb)
    go_ret
    exact ⟨retS HT.out.symm, AC.out⟩
  · rw [hok] at HO
    obtain ⟨a, c, rfl, h⟩ := h
    rw [show ctxT s z ps = ⟨(ctxJ s z ps).toArray⟩ by unfold ctxT; rw [hok]; rfl]
    rcases h with ⟨_, rfl⟩ | ⟨bb, off, cap, hv, _, hp⟩
    · have := (okC_parts hok).2.1; simp at this
    · obtain ⟨rfl, _, rfl⟩ : a = some ⟨bb, off, none⟩ ∧ True ∧ c = cap := by simpa using hv
      exact ctx_row s z bb off c ps w hok hp hP HO
end Go.Proofs.YtlelcecbpahliaaGreatDoor
