/- The length of a channel: the model's, and both words whole. -/
import Derived.Test.YtcoldhdghcdaeaaLenI
namespace Go.Proofs.Ytcoldhdghcdaeaa
open Go.ChangeShapes Go.WideShapes Go.ChangeAt Go.RowKit Pm

theorem sapart_v (p q : Int × Int) (hp : okB p = true) (hq : okB q = true) (w : World) :
    Calls Try.prog 81 #[.agg #[.int .i64 p.1, .int .i64 p.2], .agg #[.int .i64 q.1, .int .i64 q.2]] w fun e w' => e = .returned (.int .i64 (dstV p q)) ∧ Below w.heap.size w w' :=
  (sapart_any p.1 p.2 q.1 q.2 w (vd_of hp) (vd_of hq)).mono fun _ _ ⟨r, hr, he, hb⟩ => ⟨by
    have hd : DistIs p.1 p.2 q.1 q.2 r := by unfold DistIs; rw [if_pos (by rw [show okB (p.1, p.2) = true from hp, show okB (q.1, q.2) = true from hq]; rfl)]; exact hr
    rw [he, hd.one (dstV_is p q)], hb⟩
set_option maxRecDepth 100000 in
set_option maxHeartbeats 2000000 in
theorem sl13len_any (v : Value) (ps : Pts) (w : World) (h1 : 1 ≤ ps.length) (h12 : ps.length ≤ 12) (hok : ∀ i, i < ps.length → okB (ps.getD i (0, 0)) = true) (h : PtsL w v ps) :
    Calls Try.prog 48 #[v] w fun e w' => e = .returned (.int .i64 (begV ps (ps.length - 1))) ∧ Below w.heap.size w w' := by
  obtain ⟨a, c, rfl, h⟩ := h
  rcases h with ⟨_, rfl⟩ | ⟨bb, off, cap, hv, _, hp⟩
  · simp at h1
  · simp only [Value.slice.injEq, true_and] at hv
    obtain ⟨rfl, rfl⟩ := hv
    have HP := Lib.hid hp
    have HK := Lib.hid hok
    obtain ⟨n, hn⟩ : ∃ n, n = ps.length := ⟨_, rfl⟩
    have HN := Lib.hid hn
    rw [← hn] at h1 h12 ⊢
    clear hn hp hok
    go_enter Try.func48, Try.ntmps48
    go_wp2_with (fail)
    go_loopw [3, 4] (fun b i wr => ∃ k : Nat, k + 1 ≤ n ∧ i = .int .i64 ((k + 1 : Nat) : Int) ∧ b = .int .i64 (begV ps k) ∧ Below w.heap.size w wr) (fun _ i _ => n - (intOf i).toNat)
    case atStart => exact ⟨0, h1, rfl, rfl, Below.refl _ _⟩
    case round =>
      obtain ⟨k, hk, rfl, rfl, hbel⟩ := hrel
      by_cases hlt : k + 1 < n
      · have hkn : ((k + 1 : Nat) : Int) < (n : Int) := by omega
        have d0 := cell_below (HP.out k (by have := HN.out; omega)).1 hbel
        have d1 := cell_below (HP.out k (by have := HN.out; omega)).2 hbel
        have d2 := cell_below (HP.out (k + 1) (by have := HN.out; omega)).1 hbel
        have d3 := cell_below (HP.out (k + 1) (by have := HN.out; omega)).2 hbel
        have hidx : ((k + 1 : Nat) : Int) - 1 = (k : Int) := by omega
        have hkp : (0 : Int) < ((k + 1 : Nat) : Int) := by omega
        have HD := Lib.hid (fun w' => sapart_v (ps.getD k (0, 0)) (ps.getD (k + 1) (0, 0)) (HK.out k (by have := HN.out; omega)) (HK.out (k + 1) (by have := HN.out; omega)) w')
        have HBE := Lib.hid (show begV ps (k + 1) = begV ps k + dstV (ps.getD k (0, 0)) (ps.getD (k + 1) (0, 0)) from rfl)
        have hb0 := begV_bd ps k
        have hd0 := dstV_bd (ps.getD k (0, 0)) (ps.getD (k + 1) (0, 0))
        generalize dstV (ps.getD k (0, 0)) (ps.getD (k + 1) (0, 0)) = dk at *
        generalize (ps.getD k (0, 0)).1 = x at *
        generalize (ps.getD k (0, 0)).2 = y at *
        generalize (ps.getD (k + 1) (0, 0)).1 = x' at *
        generalize (ps.getD (k + 1) (0, 0)).2 = y' at *
        generalize begV ps k = bk at *
        have hw : IntKind.i64.wrap (bk + dk) = bk + dk := IntWalk.i64_in _ ⟨by omega, by omega⟩
        clear hb0 hd0
        go_wp2_with (fail)
        obtain ⟨S, hcl, hS0, k0, k1, k2, k3, kB⟩ := clx4 d0 d1 d2 d3 hbel
        have hnS : Nonempty (Clx S) := ⟨⟨_, hS0⟩⟩
        clear d0 d1 d2 d3 hbel
        refine wp_region_clx S (by kernel_rfl) (by kernel_rfl) hS0 ?_
        repeat (go_big_quiet_step ((go_at_call 81; exact Clx.call hcl _ (HD.out _))))
        refine wpQuiet_nil ?_
        intro _ hw'
        obtain ⟨p, rfl⟩ := hw'
        have HB2 := Lib.hid (kB p)
        clear hS0 kB k0 k1 k2 k3 hnS hcl
        go_wp2_with (fail)
        go_roundw
        case rel => exact ⟨k + 1, by omega, by go_num, by rw [HBE.out], HB2.out⟩
        case measure => simp [intOf]; omega
      · obtain rfl : n = k + 1 := by omega
        go_wp2
        go_ret
        exact ⟨rfl, hbel⟩
/-- The length, and the error. -/
noncomputable def lenA (s : ByteArray) (ps : Pts) (z : Int) : Int := if okC s ps z = true then begV ps (ps.length - 1) else 0
def lenE (s : ByteArray) (ps : Pts) (z : Int) : Int := if okC s ps z = true then 0 else 1
/-- A row of points that reads, and has the room for them. -/
def PtsC (w : World) (v : Value) (ps : Pts) : Prop := PtsL w v ps ∧ ∃ a c, v = .slice a ps.length c ∧ ps.length ≤ c
theorem PtsC.below {w w' : World} {v : Value} {ps : Pts} (h : PtsC w v ps) (hb : Below w.heap.size w w') : PtsC w' v ps := ⟨h.1.below hb, h.2⟩
theorem OwnPt.ptsc {w : World} {B : Nat} {v : Value} {ps : Pts} (h : OwnPt w B v ps) (hn : ps.length ≤ 1048576) : PtsC w v ps := by
  refine ⟨h.pts hn, ?_⟩
  have h1 := h.1
  rcases h.2 with ⟨h1, h2⟩ | ⟨g, cap, cur, h1, h3, h4, h5⟩
  · exact ⟨_, _, by rw [h1, show ps.length = 0 by simpa using h2], by have e : ps.length = 0 := (by simpa using h2); omega⟩
  · exact ⟨_, _, h1, h5.1⟩
theorem PtsC.cells {w : World} {v : Value} {ps : Pts} (h : PtsC w v ps) (h1 : 1 ≤ ps.length) : ∃ bb off cap, v = .slice (some ⟨bb, off, none⟩) ps.length cap ∧ ps.length ≤ cap ∧ ∀ i, i < ps.length → w.cell? ⟨bb, off + i * 2, none⟩ = some (.int .i64 (ps.getD i (0, 0)).1) ∧ w.cell? ⟨bb, off + i * 2 + 1, none⟩ = some (.int .i64 (ps.getD i (0, 0)).2) := by
  obtain ⟨⟨a, c, rfl, h⟩, a2, c2, hv2, hc2⟩ := h
  rcases h with ⟨_, rfl⟩ | ⟨bb, off, cap, hv, _, hp⟩
  · simp at h1
  · simp only [Value.slice.injEq, true_and] at hv hv2
    obtain ⟨rfl, rfl⟩ := hv
    exact ⟨bb, off, c, rfl, by rw [hv2.2]; exact hc2, hp⟩
set_option maxHeartbeats 1000000 in
theorem chlen_any (s : ByteArray) (z : Int) (v : Value) (ps : Pts) (w : World) (hs : s.size ≤ maxLen) (hm : ps.length ≤ 1048576) (h : PtsC w v ps) :
    Calls Try.prog 19 #[.agg #[.string s, v, .int .i64 z]] w fun e w' => e = .returned (.tuple #[.int .i64 (lenA s ps z), .int .i64 (lenE s ps z)]) ∧ Below w.heap.size w w' := by
  have HV := fun w' (h : PtsC w' v ps) => validchn_any s z v ps w' hs hm h.1
  have HP := Lib.hid h
  cases hk : okC s ps z
  · rw [hk] at HV
    have HV := Lib.hid HV
    have EA := Lib.hid (show lenA s ps z = 0 by unfold lenA; rw [hk]; rfl)
    have EE := Lib.hid (show lenE s ps z = 1 by unfold lenE; rw [hk]; rfl)
    obtain ⟨a, c, rfl⟩ := pts_len h.1
    clear h hk
    rw [EA.out, EE.out]
    go_enter Try.func19, Try.ntmps19
    go_wp2_with (go_at_call 14; (refine (HV.out _ (HP.out.below (by go_grown))).mono ?_); rintro e w1 ⟨rfl, hb⟩; have AC := Lib.hid (Below.next (a := w) (by go_grown) hb); clear hb)
    refine bodyPost_ret (v := .tuple #[.int .i64 0, .int .i64 1]) (by simp [results, Try.results19, go_sem, *]) rfl ⟨rfl, AC.out⟩
  · rw [hk] at HV
    have HV := Lib.hid HV
    have EA := Lib.hid (show lenA s ps z = begV ps (ps.length - 1) by unfold lenA; rw [hk]; rfl)
    have EE := Lib.hid (show lenE s ps z = 0 by unfold lenE; rw [hk]; rfl)
    obtain ⟨_, h2, h12, _⟩ := okC_parts hk
    obtain ⟨bb, off, cap, rfl, hcap, hc⟩ := h.cells (by omega)
    have HL := Lib.hid (fun (w' : World) (hb : Below w.heap.size w w') => (callsIn_wide (n := 3)).1 (chlen_in 3 (Nat.le_refl _) bb off cap ps h2 h12 hcap s z w' (fun i hi => ⟨cell_below (hc i hi).1 hb, cell_below (hc i hi).2 hb⟩)))
    clear h hk hc
    rw [EA.out, EE.out]
    generalize begV ps (ps.length - 1) = L at *
    go_enter Try.func19, Try.ntmps19
    go_wp2_with (first
      | (go_at_call 14; (refine (HV.out _ (HP.out.below (by go_grown))).mono ?_); rintro e w1 ⟨rfl, hb⟩; obtain ⟨x0, x1, x2⟩ := (show ChnAt w1 w.heap.size s (.slice (some ⟨bb, off, none⟩) ps.length cap) z from (ChnAt.new (w := w) s _ z _ rfl).below hb); have AC := Lib.hid (Below.next (a := w) (by go_grown) hb); clear hb)
      | (go_at_call 49; (refine (HL.out _ AC.out).mono ?_); rintro e w2 ⟨rfl, hb⟩; have AD := Lib.hid (Below.next AC.out hb); clear hb))
    refine bodyPost_ret (v := .tuple #[.int .i64 L, .int .i64 0]) (by simp [results, Try.results19, go_sem, *]) rfl ⟨rfl, AD.out⟩
set_option maxHeartbeats 1000000 in
theorem schlen_any (s : ByteArray) (z : Int) (v : Value) (ps : Pts) (w : World) (hs : s.size ≤ maxLen) (hm : ps.length ≤ 1048576) (h : PtsL w v ps) :
    Calls Try.prog 18 #[.agg #[.string s, v, .int .i64 z]] w fun e w' => e = .returned (.tuple #[.int .i64 (lenA s ps z), .int .i64 (lenE s ps z)]) ∧ Below w.heap.size w w' := by
  have HV := fun b w' h1 h2 => sokchn_any b s z v ps w' hs hm h1 h2
  have HP := Lib.hid h
  cases hk : okC s ps z
  · rw [hk] at HV
    have HV := Lib.hid HV
    have EA := Lib.hid (show lenA s ps z = 0 by unfold lenA; rw [hk]; rfl)
    have EE := Lib.hid (show lenE s ps z = 1 by unfold lenE; rw [hk]; rfl)
    obtain ⟨a, c, rfl⟩ := pts_len h
    clear h hk
    rw [EA.out, EE.out]
    go_enter Try.func18, Try.ntmps18
    go_wp2_with (go_at_call 38; (refine (HV.out _ _ (HP.out.below (by go_grown)) (ChnAt.new s _ z _ rfl)).mono ?_); rintro e w1 ⟨rfl, hb⟩; have AC := Lib.hid (Below.next (a := w) (by go_grown) hb); clear hb)
    refine bodyPost_ret (v := .tuple #[.int .i64 0, .int .i64 1]) (by simp [results, Try.results18, go_sem, *]) rfl ⟨rfl, AC.out⟩
  · rw [hk] at HV
    have HV := Lib.hid HV
    have EA := Lib.hid (show lenA s ps z = begV ps (ps.length - 1) by unfold lenA; rw [hk]; rfl)
    have EE := Lib.hid (show lenE s ps z = 0 by unfold lenE; rw [hk]; rfl)
    obtain ⟨_, h2, h12, hoks, _⟩ := okC_parts hk
    have HL := Lib.hid (fun w' h => sl13len_any v ps w' (by omega) h12 hoks h)
    obtain ⟨a, c, rfl⟩ := pts_len h
    clear h hk
    rw [EA.out, EE.out]
    generalize begV ps (ps.length - 1) = L at *
    go_enter Try.func18, Try.ntmps18
    go_wp2_with (first
      | (go_at_call 38; (refine (HV.out _ _ (HP.out.below (by go_grown)) (ChnAt.new s _ z _ rfl)).mono ?_); rintro e w1 ⟨rfl, hb⟩; obtain ⟨x0, x1, x2⟩ := (show ChnAt w1 w.heap.size s (.slice a ps.length c) z from (ChnAt.new (w := w) s _ z _ rfl).below hb); have AC := Lib.hid (Below.next (a := w) (by go_grown) hb); clear hb)
      | (go_at_call 48; (refine (HL.out _ (HP.out.below AC.out)).mono ?_); rintro e w2 ⟨rfl, hb⟩; have AD := Lib.hid (Below.next AC.out hb); clear hb))
    refine bodyPost_ret (v := .tuple #[.int .i64 L, .int .i64 0]) (by simp [results, Try.results18, go_sem, *]) rfl ⟨rfl, AD.out⟩
end Go.Proofs.Ytcoldhdghcdaeaa
