/- The place along a channel: the model's. -/
import Derived.Test.YtcoldhdghcdaeaaPlaI
import Derived.Test.YtcoldhdghcdaeaaBtwSA
import Derived.Deep.RegionHeld3
namespace Go.Proofs.Ytcoldhdghcdaeaa
open Go.ChangeShapes Go.WideShapes Go.ChangeAt Go.RowKit Pm

theorem dL_step {ps : Pts} {k : Nat} (hk : k + 1 < ps.length) (hok : ∀ i, i < ps.length → okB (ps.getD i (0, 0)) = true) (hs : stopB ps = false) : 1 ≤ dL ps k ∧ dL ps k ≤ 1000000 := by
  have h := stop_apart hs (k := k + 1) (by omega) hk
  rw [show k + 1 - 1 = k by omega] at h
  have o1 := hok k (by omega)
  have o2 := hok (k + 1) hk
  unfold dL
  generalize ps.getD k (0, 0) = p at *
  generalize ps.getD (k + 1) (0, 0) = q at *
  have hd := dstV_is p q
  unfold DistIs at hd
  rw [if_pos (by rw [show okB (p.1, p.2) = true from o1, show okB (q.1, q.2) = true from o2]; rfl)] at hd
  obtain ⟨r0, _, _, hr⟩ := hd
  have hn := sqd_nn p.1 p.2 q.1 q.2
  have hb := sqd_bd (vd_of (show inB 0 200000 [p.1, p.2] = true from o1)) (vd_of (show inB 0 200000 [q.1, q.2] = true from o2))
  obtain ⟨h1, h2⟩ := hr hn
  generalize dstV p q = r at *
  constructor
  · rcases Int.lt_or_le 0 r with c | c
    · omega
    · obtain rfl : r = 0 := by omega
      have e := sqd_zero (show sqd p.1 p.2 q.1 q.2 ≤ 0 by omega)
      unfold ptB at h
      rw [e.1, e.2] at h
      simp at h
  · have := sq_lt (a := r) (b := 1000000) (by omega) (by omega)
    omega
/-- Where it lies on its segment. -/
theorem SegIx.rest {ps : Pts} {d : Int} {i : Nat} (h : SegIx ps d i) (h0 : 0 ≤ d) : 0 ≤ d - begV ps i ∧ d - begV ps i ≤ dL ps i := by
  have h2 := h.2.1
  have e : begV ps (i + 1) = begV ps i + dL ps i := rfl
  refine ⟨?_, by omega⟩
  cases i with
  | zero => simp only [begV]; omega
  | succ j =>
    have := h.2.2 j (by omega)
    omega
theorem segix_ex {ps : Pts} {d : Int} (h2 : 2 ≤ ps.length) (hd : d ≤ begV ps (ps.length - 1)) : ∃ i, SegIx ps d i := by
  have key : ∀ n, n + 1 < ps.length → d ≤ begV ps (n + 1) → ∃ i, SegIx ps d i := by
    intro n
    induction n with
    | zero => exact fun hn h => ⟨0, hn, h, fun j hj => absurd hj (Nat.not_lt_zero _)⟩
    | succ m ih =>
      intro hn h
      by_cases hm : d ≤ begV ps (m + 1)
      · exact ih (by omega) hm
      · by_cases hall : ∀ j, j < m + 1 → begV ps (j + 1) < d
        · exact ⟨m + 1, hn, h, hall⟩
        · obtain ⟨j, hj⟩ := Classical.not_forall.1 hall
          obtain ⟨hj1, hj2⟩ := Classical.not_imp.1 hj
          exact absurd (ih (by omega) (by
            have mono : ∀ a b, a ≤ b → begV ps a ≤ begV ps b := by
              intro a b hab
              induction b with
              | zero => obtain rfl : a = 0 := by omega
                        exact Int.le_refl _
              | succ b ihb =>
                rcases Nat.lt_or_ge b a with c | c
                · obtain rfl : a = b + 1 := by omega
                  exact Int.le_refl _
                · have := ihb c
                  have := (dL_bd ps b).1
                  simp only [begV]
                  omega
            have := mono (j + 1) (m + 1) (by omega)
            omega)) (fun _ => hm (by
            have mono : ∀ a b, a ≤ b → begV ps a ≤ begV ps b := by
              intro a b hab
              induction b with
              | zero => obtain rfl : a = 0 := by omega
                        exact Int.le_refl _
              | succ b ihb =>
                rcases Nat.lt_or_ge b a with c | c
                · obtain rfl : a = b + 1 := by omega
                  exact Int.le_refl _
                · have := ihb c
                  have := (dL_bd ps b).1
                  simp only [begV]
                  omega
            have := mono (j + 1) (m + 1) (by omega)
            omega))
  exact key (ps.length - 2) (by omega) (by rw [show ps.length - 2 + 1 = ps.length - 1 by omega]; exact hd)
set_option maxRecDepth 100000 in
set_option maxHeartbeats 2000000 in
theorem sfind_any (v : Value) (ps : Pts) (d : Int) (x : Nat) (w : World) (h12 : ps.length ≤ 12) (hx : SegIx ps d x) (h0 : 0 ≤ d) (hdm : d ≤ 1000000000000) (hok : ∀ i, i < ps.length → okB (ps.getD i (0, 0)) = true) (h : PtsL w v ps) :
    Calls Try.prog 83 #[v, .int .i64 d] w fun e w' => e = .returned (.tuple #[.int .i64 ((x + 1 : Nat) : Int), .int .i64 (d - begV ps x)]) ∧ Below w.heap.size w w' := by
  obtain ⟨a, c, rfl, h⟩ := h
  have h1 := hx.1
  rcases h with ⟨_, rfl⟩ | ⟨bb, off, cap, hv, _, hp⟩
  · simp at h1
  · simp only [Value.slice.injEq, true_and] at hv
    obtain ⟨rfl, rfl⟩ := hv
    have HP := Lib.hid hp
    have HK := Lib.hid hok
    have HX := Lib.hid hx
    obtain ⟨n, hn⟩ : ∃ n, n = ps.length := ⟨_, rfl⟩
    have HN := Lib.hid hn
    rw [← hn] at h1 h12 ⊢
    clear hn hp hok hx
    go_enter Try.func83, Try.ntmps83
    go_wp2_with (fail)
    go_loopw [1, 6] (fun dv i wr => ∃ k : Nat, k ≤ x ∧ i = .int .i64 ((k + 1 : Nat) : Int) ∧ dv = .int .i64 (d - begV ps k) ∧ Below w.heap.size w wr) (fun _ i _ => n - (intOf i).toNat)
    case atStart => exact ⟨0, Nat.zero_le _, rfl, by simp [begV], Below.refl _ _⟩
    case round =>
      obtain ⟨k, hk, rfl, rfl, hbel⟩ := hrel
      have hlt : k + 1 < n := by omega
      have hkn : ((k + 1 : Nat) : Int) < (n : Int) := by omega
      have d0 := cell_below (HP.out k (by have := HN.out; omega)).1 hbel
      have d1 := cell_below (HP.out k (by have := HN.out; omega)).2 hbel
      have d2 := cell_below (HP.out (k + 1) (by have := HN.out; omega)).1 hbel
      have d3 := cell_below (HP.out (k + 1) (by have := HN.out; omega)).2 hbel
      have hidx : ((k + 1 : Nat) : Int) - 1 = (k : Int) := by omega
      have hkp : (0 : Int) < ((k + 1 : Nat) : Int) := by omega
      have HD := Lib.hid (fun w' => sapart_v (ps.getD k (0, 0)) (ps.getD (k + 1) (0, 0)) (HK.out k (by have := HN.out; omega)) (HK.out (k + 1) (by have := HN.out; omega)) w')
      have HBE := Lib.hid (show begV ps (k + 1) = begV ps k + dstV (ps.getD k (0, 0)) (ps.getD (k + 1) (0, 0)) from rfl)
      have HLE := Lib.hid (show d - begV ps k ≤ dstV (ps.getD k (0, 0)) (ps.getD (k + 1) (0, 0)) ↔ k = x by
        have e := HBE.out
        constructor
        · intro h
          rcases Nat.lt_or_ge k x with c | c
          · have := HX.out.2.2 k c
            omega
          · omega
        · rintro rfl
          have := HX.out.2.1
          omega)
      have hb0 := begV_bd ps k
      have hd0 := dstV_bd (ps.getD k (0, 0)) (ps.getD (k + 1) (0, 0))
      generalize dstV (ps.getD k (0, 0)) (ps.getD (k + 1) (0, 0)) = dk at *
      generalize (ps.getD k (0, 0)).1 = x0 at *
      generalize (ps.getD k (0, 0)).2 = y0 at *
      generalize (ps.getD (k + 1) (0, 0)).1 = x' at *
      generalize (ps.getD (k + 1) (0, 0)).2 = y' at *
      have hw : wrap64 (d - begV ps k - dk) = d - begV ps k - dk := IntWalk.wrap64_in _ (by omega)
      have HM := Lib.hid (show d - begV ps k - dk = d - begV ps (k + 1) by rw [HBE.out]; omega)
      clear hb0 hd0
      obtain ⟨dv, hdv⟩ : ∃ dv, dv = d - begV ps k := ⟨_, rfl⟩
      rw [← hdv] at HLE hw HM ⊢
      have HDV := Lib.hid hdv
      clear hdv
      go_wp2_with (fail)
      obtain ⟨S, hcl, hS0, k0, k1, k2, k3, kB⟩ := clx4 d0 d1 d2 d3 hbel
      have hnS : Nonempty (Clx S) := ⟨⟨_, hS0⟩⟩
      clear d0 d1 d2 d3 hbel
      refine wp_region_clx S (by kernel_rfl) (by kernel_rfl) hS0 ?_
      repeat (go_big_quiet_step ((go_at_call 81; exact Clx.call hcl _ (HD.out _))))
      refine wpQuiet_nil ?_
      intro _ hw'
      obtain ⟨p, rfl⟩ := hw'
      have HB2 := Lib.hid (kB p)
      clear hS0 kB k0 k1 k2 k3 hnS hcl
      by_cases hle : dv ≤ dk
      · obtain rfl := HLE.out.1 hle
        go_wp2_with (fail)
        refine bodyPost_ret (v := .tuple #[.int .i64 ((k + 1 : Nat) : Int), .int .i64 dv]) (by simp [results, Try.results83, go_sem, *]) rfl ⟨by rw [HDV.out, show ((k + 1 : Nat) : Int) = (k : Int) + 1 by omega], HB2.out⟩
      · have hkx : k ≠ x := fun e => hle (HLE.out.2 e)
        go_wp2_with (fail)
        go_roundw
        case rel => exact ⟨k + 1, by omega, by go_num, by rw [hw, HM.out], HB2.out⟩
        case measure => simp [intOf]; omega
theorem gkeepS4 {w0 w : World} {a0 a1 a2 a3 p : Addr} {v0 v1 v2 v3 u : Value} (n0 : p.block ≠ a0.block) (n1 : p.block ≠ a1.block) (n2 : p.block ≠ a2.block) (n3 : p.block ≠ a3.block) (hp : w0.heap.size ≤ p.block) (h : w.cell? a0 = some v0 ∧ w.cell? a1 = some v1 ∧ w.cell? a2 = some v2 ∧ w.cell? a3 = some v3 ∧ Below w0.heap.size w0 w) : (w.setCell p u).cell? a0 = some v0 ∧ (w.setCell p u).cell? a1 = some v1 ∧ (w.setCell p u).cell? a2 = some v2 ∧ (w.setCell p u).cell? a3 = some v3 ∧ Below w0.heap.size w0 (w.setCell p u) := by
  obtain ⟨h0, h1, h2, h3, hb⟩ := h
  exact ⟨by rw [World.cell?_setCell_far _ _ _ _ n0]; exact h0, by rw [World.cell?_setCell_far _ _ _ _ n1]; exact h1, by rw [World.cell?_setCell_far _ _ _ _ n2]; exact h2, by rw [World.cell?_setCell_far _ _ _ _ n3]; exact h3, hb.setCell hp u⟩
theorem gfresh2 {w w2 : World} {B : Nat} {v0 v1 : Value} (r0 : w.cell? ⟨B, 0, none⟩ = some v0) (r1 : w.cell? ⟨B, 1, none⟩ = some v1) (f0 : w.frozen? ⟨B, 0, none⟩ = false) (f1 : w.frozen? ⟨B, 1, none⟩ = false) (hb : Below w.heap.size w w2) :
    w2.cell? ⟨B, 0, none⟩ = some v0 ∧ w2.cell? ⟨B, 1, none⟩ = some v1 ∧ w2.frozen? ⟨B, 0, none⟩ = false ∧ w2.frozen? ⟨B, 1, none⟩ = false := by
  have hl : B < w.heap.size := seg_lt r0
  exact ⟨cell_below r0 hb, cell_below r1 hb, by rw [hb.frozen hl]; exact f0, by rw [hb.frozen hl]; exact f1⟩
set_option maxRecDepth 100000 in
set_option maxHeartbeats 2000000 in
theorem splace_any (v : Value) (ps : Pts) (d : Int) (x : Nat) (w : World) (h12 : ps.length ≤ 12) (hx : SegIx ps d x) (h0 : 0 ≤ d) (hdm : d ≤ 1000000000000) (hok : ∀ i, i < ps.length → okB (ps.getD i (0, 0)) = true) (hst : stopB ps = false) (h : PtsL w v ps) :
    Calls Try.prog 51 #[v, .int .i64 d] w fun e w' => e = .returned (.agg #[.int .i64 (btwX (ps.getD x (0, 0)).1 (ps.getD x (0, 0)).2 (ps.getD (x + 1) (0, 0)).1 (ps.getD (x + 1) (0, 0)).2 (d - begV ps x) (dL ps x)), .int .i64 (btwY (ps.getD x (0, 0)).1 (ps.getD x (0, 0)).2 (ps.getD (x + 1) (0, 0)).1 (ps.getD (x + 1) (0, 0)).2 (d - begV ps x) (dL ps x))]) ∧ Below w.heap.size w w' := by
  have HF := Lib.hid (fun w' h => sfind_any v ps d x w' h12 hx h0 hdm hok h)
  have HPL := Lib.hid h
  have h1 := hx.1
  have hrest := hx.rest h0
  have hstep := dL_step h1 hok hst
  have o1 := hok x (by omega)
  have o2 := hok (x + 1) h1
  have HA := Lib.hid (fun w' => sapart_v (ps.getD x (0, 0)) (ps.getD (x + 1) (0, 0)) o1 o2 w')
  have HB := Lib.hid (fun w' => sl02btw_any (ps.getD x (0, 0)).1 (ps.getD x (0, 0)).2 (ps.getD (x + 1) (0, 0)).1 (ps.getD (x + 1) (0, 0)).2 (d - begV ps x) (dL ps x) w' (vd_of o1) (vd_of o2) (by simp [inB]; omega) (by simp [inB]; omega))
  obtain ⟨a, c, rfl, h⟩ := h
  rcases h with ⟨_, rfl⟩ | ⟨bb, off, cap, hv, _, hp⟩
  · simp at h1
  · simp only [Value.slice.injEq, true_and] at hv
    obtain ⟨rfl, rfl⟩ := hv
    have d0 := (hp x (by omega)).1
    have d1 := (hp x (by omega)).2
    have d2 := (hp (x + 1) h1).1
    have d3 := (hp (x + 1) h1).2
    have hbb : bb < w.heap.size := seg_lt d0
    obtain ⟨j, hj⟩ : ∃ j, j = x + 1 := ⟨_, rfl⟩
    have hkn : (j : Int) < (ps.length : Int) := by omega
    have hkm : (x : Int) < (ps.length : Int) := by omega
    have hidx : (j : Int) - 1 = (x : Int) := by omega
    have hidw : IntKind.i64.wrap ((j : Int) - 1) = (x : Int) := by rw [hidx]; exact IntWalk.i64_in _ (by omega)
    have hx0 : (0 : Int) ≤ (x : Int) := by omega
    have hj0 : (0 : Int) ≤ (j : Int) := by omega
    clear hidx
    have hkp : (0 : Int) < (j : Int) := by omega
    rw [← hj] at d2 d3
    have HF := Lib.hid (fun w' h => (by have := HF.out w' h; rw [← hj] at this; exact this : Calls Try.prog 83 #[.slice (some ⟨bb, off, none⟩) ps.length c, .int .i64 d] w' fun e w'' => e = .returned (.tuple #[.int .i64 (j : Int), .int .i64 (d - begV ps x)]) ∧ Below w'.heap.size w' w''))
    rw [← hj] at HA HB ⊢
    have HJ := Lib.hid hj
    clear hj
    clear hp hok hst hx hrest h1 hstep o1 o2
    rw [show dstV (ps.getD x (0, 0)) (ps.getD j (0, 0)) = dL ps x by rw [HJ.out]; rfl] at HA
    generalize dL ps x = dl at *
    generalize d - begV ps x = dr at *
    generalize (ps.getD x (0, 0)).1 = x0 at *
    generalize (ps.getD x (0, 0)).2 = y0 at *
    generalize (ps.getD j (0, 0)).1 = x' at *
    generalize (ps.getD j (0, 0)).2 = y' at *
    generalize btwX x0 y0 x' y' dr dl = X at *
    generalize btwY x0 y0 x' y' dr dl = Y at *
    go_enter Try.func51, Try.ntmps51
    go_wp2_with (go_at_call 83; (with_reducible refine (HF.out _ (HPL.out.below (by go_grown))).mono ?_); rintro en w1 ⟨rfl, hb⟩; refine Hid.out ?_)
    refine Lib.hid ?_
    have r0 := cell_below (a := ⟨w.heap.size, 0, none⟩) (v := .int .i64 0) (by go_cell) hb
    have r1 := cell_below (a := ⟨w.heap.size, 1, none⟩) (v := .int .i64 0) (by go_cell) hb
    have f0 : w1.frozen? ⟨w.heap.size, 0, none⟩ = false := by rw [hb.frozen (by simp)]; go_simp
    have f1 : w1.frozen? ⟨w.heap.size, 1, none⟩ = false := by rw [hb.frozen (by simp)]; go_simp
    have ac := Below.next (a := w) (by go_grown) hb
    have HR := Lib.hid (show w1.cell? ⟨bb, off + x * 2, none⟩ = some (.int .i64 x0) ∧ w1.cell? ⟨bb, off + x * 2 + 1, none⟩ = some (.int .i64 y0) ∧ w1.cell? ⟨bb, off + j * 2, none⟩ = some (.int .i64 x') ∧ w1.cell? ⟨bb, off + j * 2 + 1, none⟩ = some (.int .i64 y') ∧ Below w.heap.size w w1 from ⟨cell_below d0 ac, cell_below d1 ac, cell_below d2 ac, cell_below d3 ac, ac⟩)
    have nb : w.heap.size ≠ bb := by omega
    have RF := Lib.hid (fun w2 (hb2 : Below w1.drew.heap.size w1.drew w2) => gfresh2 (w := w1.drew) r0 r1 f0 f1 hb2)
    clear hb ac d0 d1 d2 d3 HF HPL
    go_wp2_with (fail)
    go_region_held3 (fun w' => w'.cell? ⟨bb, off + x * 2, none⟩ = some (.int .i64 x0) ∧ w'.cell? ⟨bb, off + x * 2 + 1, none⟩ = some (.int .i64 y0) ∧ w'.cell? ⟨bb, off + j * 2, none⟩ = some (.int .i64 x') ∧ w'.cell? ⟨bb, off + j * 2 + 1, none⟩ = some (.int .i64 y') ∧ Below w.heap.size w w')
      (first | (with_reducible assumption) | (with_reducible exact gkeepS4 nb nb nb nb (Nat.le_refl _) (gkeepS4 nb nb nb nb (Nat.le_refl _) (by assumption))) | (with_reducible exact keep4 (by assumption) (by assumption)) | (with_reducible exact drew4 HR.out))
      (first
        | (go_at_call 81; (with_reducible refine (HA.out _).mono ?_); rintro en w2 ⟨rfl, hb⟩; obtain ⟨r02, r12, f02, f12⟩ := RF.out _ hb)
        | (go_at_call 84; (with_reducible refine (HB.out _).mono ?_); rintro en w3 ⟨rfl, hb⟩; obtain ⟨r03, r13, f03, f13⟩ := gfresh2 r02 r12 f02 f12 hb))
    all_goals
      rename_i hH
      have BB := Lib.hid hH.2.2.2.2
      clear hH
      go_wp2_with (fail)
      refine bodyPost_ret (v := .agg #[.int .i64 X, .int .i64 Y]) (by simp [results, Try.results51, go_sem, *]) rfl ⟨rfl, BB.out⟩
end Go.Proofs.Ytcoldhdghcdaeaa
