/- The marks that the laws put into a row of sectors and read again. -/
import Derived.Test.YtlelcecbpahliaaGreatDoorSctL
import Derived.Test.YtlelcecbpahliaaGreatDoorMtx
import Derived.Deep.RegionWith
namespace Go.Proofs.YtlelcecbpahliaaGreatDoor
open Go.ChangeShapes Go.WideShapes Go.ChangeAt Go.RowKit Pm

/-- The marks, in order. -/
def marksS (n : Nat) : List Sec := (List.range n).map fun (j : Nat) => (((1 + 3 * j : Nat) : Int), ((1 + 3 * j + 1 : Nat) : Int), mtx (1 + 3 * j + 2))
theorem marksS_len (n : Nat) : (marksS n).length = n := by simp [marksS]
theorem marksS_at (n j : Nat) (h : j < n) : (secV (marksS n))[j * 3]? = some (.int .i64 ((1 + 3 * j : Nat) : Int)) ∧ (secV (marksS n))[j * 3 + 1]? = some (.int .i64 ((1 + 3 * j + 1 : Nat) : Int)) ∧ (secV (marksS n))[j * 3 + 2]? = some (.string (mtx (1 + 3 * j + 2))) := by
  have := secV_at (marksS n) j (by rw [marksS_len]; exact h)
  have e : (marksS n).getD j sec0 = (((1 + 3 * j : Nat) : Int), ((1 + 3 * j + 1 : Nat) : Int), mtx (1 + 3 * j + 2)) := by simp [marksS, h]
  rw [e] at this
  exact this
theorem row_belowS {w w' : World} {B s : Nat} {T : TypeId} {v : Value} {n : Nat} {xs : List Value} (h : w.ownsRow B T s v n xs) (hb : Below w.heap.size w w') : w'.ownsRow B T s v n xs := by
  refine ⟨h.1, ?_⟩
  rcases h.2 with h2 | ⟨g, cap, cur, h1, h3, h4, h5⟩
  · exact .inl h2
  · refine .inr ⟨g, cap, cur, h1, h3, ?_, h5⟩
    have hlt : g < w.heap.size := by
      rcases Nat.lt_or_ge g w.heap.size with h' | h'
      · exact h'
      · rw [Array.getElem?_eq_none h'] at h4; cases h4
    rw [hb.block g hlt]; exact h4

/-- No block but one has changed. -/
def OnlyS (v : Value) (w w' : World) : Prop := w.heap.size ≤ w'.heap.size ∧ ∀ b, v.ownBlock ≠ some b → b < w.heap.size → w'.heap[b]? = w.heap[b]?
theorem OnlyS.refl (v : Value) (w : World) : OnlyS v w w := ⟨Nat.le_refl _, fun _ _ _ => rfl⟩
theorem OnlyS.below {v : Value} {w w1 w2 : World} (h : OnlyS v w w1) (hb : Below w1.heap.size w1 w2) : OnlyS v w w2 :=
  ⟨Nat.le_trans h.1 hb.size, fun b h1 h2 => by rw [hb.block b (by have := h.1; omega)]; exact h.2 b h1 h2⟩
theorem OnlyS.put {v : Value} {w w1 : World} {g j : Nat} {u : Value} (h : OnlyS v w w1) (hg : v.ownBlock = some g) : OnlyS v w (w1.setCell ⟨g, j, none⟩ u) :=
  ⟨by have := h.1; simpa [World.setCell] using this, fun b h1 h2 => by
    have hne : g ≠ b := fun e => h1 (by rw [hg, e])
    rw [Below.heap_setCell _ _ _ _ (fun e => hne e.symm)]
    exact h.2 b h1 h2⟩
theorem OnlyS.own {v v2 : Value} {w w' : World} {B2 : Nat} {L : List Sec} (h : OnlyS v w w') (hv : ∀ g, v.ownBlock = some g → g < B2) (ho : OwnSec w B2 v2 L) : OwnSec w' B2 v2 L := by
  refine ⟨ho.1, ?_⟩
  rcases ho.2 with h2 | ⟨g, cap, cur, h1, h3, h4, h5⟩
  · exact .inl h2
  · refine .inr ⟨g, cap, cur, h1, h3, ?_, h5⟩
    have hlt : g < w.heap.size := by
      rcases Nat.lt_or_ge g w.heap.size with h' | h'
      · exact h'
      · rw [Array.getElem?_eq_none h'] at h4; cases h4
    rw [h.2 g (fun e => by have := hv g e; omega) hlt]; exact h4
theorem OwnSec.block {w : World} {B : Nat} {v : Value} {L : List Sec} (h : OwnSec w B v L) : ∀ g, v.ownBlock = some g → g < w.heap.size := by
  intro g hg
  rcases h.2 with ⟨rfl, _⟩ | ⟨g2, cap, cur, rfl, h3, h4, h5⟩
  · cases hg
  · have e : g2 = g := by simpa [Value.ownBlock] using hg
    subst e
    rcases Nat.lt_or_ge g2 w.heap.size with h' | h'
    · exact h'
    · rw [Array.getElem?_eq_none h'] at h4; cases h4
set_option maxHeartbeats 1000000 in
theorem marksec_any (v : Value) (ps : List Sec) (B : Nat) (w : World) (hB0 : B ≤ w.heap.size) (hn : ps.length ≤ 1048576) (ho : OwnSec w B v ps) :
    Calls Tryz.prog 9 #[v, .int .i64 1] w (fun e w' => e = .returned (.int .i64 (1 + 3 * ps.length)) ∧ OwnSec w' B v (marksS ps.length) ∧ Below B w w' ∧ OnlyS v w w') := by
  rcases ho.form with ⟨rfl, rfl⟩ | ⟨g, cap, rfl, hB⟩
  · clear ho
    go_enter Tryz.func9, Tryz.ntmps9
    go_wp2
    go_rounds 1
    go_ret
    exact ⟨rfl, OwnSec.none _ _, Below.refl _ _, OnlyS.refl _ _⟩
  · obtain ⟨n, hnn⟩ : ∃ n, n = ps.length := ⟨_, rfl⟩
    have HO := Lib.hid (show w.ownsRow B 52 3 (.slice (some ⟨g, 0, none⟩) n cap) n (secV ps) by rw [hnn]; exact ho)
    have hpl : (secV ps).length = n * 3 := by rw [secV_len, hnn]
    rw [← hnn] at hn ⊢
    clear ho hnn
    go_enter Tryz.func9, Tryz.ntmps9
    go_wp2
    go_loopw [1, 5] (fun q i wr => ∃ (j : Nat) (ys : List Value), j ≤ n ∧ i = .int .i64 j ∧ q = .int .i64 ((1 + 3 * j : Nat) : Int) ∧ SecUpto ys (j * 3) (secV (marksS n)) ∧ wr.ownsRow B 52 3 (.slice (some ⟨g, 0, none⟩) n cap) n ys ∧ Below B w wr ∧ OnlyS (.slice (some ⟨g, 0, none⟩) n cap) w wr) (fun _ i _ => n - (intOf i).toNat)
    case atStart => exact ⟨0, secV ps, Nat.zero_le _, rfl, rfl, ⟨by rw [hpl, secV_len, marksS_len], fun j hj => by omega⟩, HO.out, Below.refl _ _, OnlyS.refl _ _⟩
    case round =>
      obtain ⟨j, ys, hj, rfl, rfl, hup, hown, hbel, honly⟩ := hrel
      have HON := Lib.hid honly
      clear honly
      have HU := Lib.hid hup
      have HOW := Lib.hid hown
      have HBR := Lib.hid hbel
      clear hup hown hbel
      by_cases hlt : j < n
      · have hkn : (j : Int) < (n : Int) := by omega
        have HM := Lib.hid (fun w => mtx_any (1 + 3 * j + 2) w (by omega) (by omega))
        obtain ⟨v0, v1, v2⟩ := marksS_at n j hlt
        have hyl : ys.length = n * 3 := by have := HU.out.1; rw [secV_len, marksS_len] at this; exact this
        have u1 := HU.out.step (u := .int .i64 ((1 + 3 * j : Nat) : Int)) (by rw [secV_len, marksS_len]; omega) v0
        have u2 := u1.step (u := .int .i64 ((1 + 3 * j + 1 : Nat) : Int)) (by rw [secV_len, marksS_len]; omega) v1
        have u3 := u2.step (u := .string (mtx (1 + 3 * j + 2))) (by rw [secV_len, marksS_len]; omega) v2
        obtain ⟨u, hu⟩ : ∃ u, u = mtx (1 + 3 * j + 2) := ⟨_, rfl⟩
        rw [← hu] at HM u3
        have HUP := Lib.hid u3
        have ho := HOW.out
        obtain ⟨z0, o0⟩ : ∃ z, wr.cell? ⟨g, j * 3, none⟩ = some z := ⟨_, (ho.cellAt (j * 3) (by omega)).trans (List.getElem?_eq_getElem (by omega))⟩
        obtain ⟨z1, o1⟩ : ∃ z, wr.cell? ⟨g, j * 3 + 1, none⟩ = some z := ⟨_, (ho.cellAt (j * 3 + 1) (by omega)).trans (List.getElem?_eq_getElem (by omega))⟩
        have f0 := ho.frozenAt (j * 3)
        have f1 := ho.frozenAt (j * 3 + 1)
        have HST := Lib.hid ((ho.stored (j * 3) (.int .i64 ((1 + 3 * j : Nat) : Int))).1.stored (j * 3 + 1) (.int .i64 ((1 + 3 * j + 1 : Nat) : Int))).1
        have HB2 := Lib.hid ((HBR.out.setCell (p := ⟨g, j * 3, none⟩) hB (.int .i64 ((1 + 3 * j : Nat) : Int))).setCell (p := ⟨g, j * 3 + 1, none⟩) hB (.int .i64 ((1 + 3 * j + 1 : Nat) : Int)))
        have HON2 := Lib.hid ((HON.out.put (g := g) (j := j * 3) (u := .int .i64 ((1 + 3 * j : Nat) : Int)) rfl).put (g := g) (j := j * 3 + 1) (u := .int .i64 ((1 + 3 * j + 1 : Nat) : Int)) rfl)
        clear hu u1 u2 u3 v0 v1 v2 ho
        go_wp2_with (go_at_call 31; refine (HM.out _).mono ?_; rintro e w2 ⟨rfl, hb2⟩; refine Hid.out ?_)
        refine Lib.hid ?_
        have ho2 := row_belowS HST.out hb2
        have hsz := HB2.out.size
        have hbel := HB2.out.trans (hb2.mono (Nat.le_trans hB0 HB2.out.size))
        have hon := HON2.out.below hb2
        obtain ⟨z2, o2⟩ : ∃ z, w2.cell? ⟨g, j * 3 + 2, none⟩ = some z := ⟨_, (ho2.cellAt (j * 3 + 2) (by first | omega | (simp; omega))).trans (List.getElem?_eq_getElem (by first | omega | (simp; omega)))⟩
        have f2 := ho2.frozenAt (j * 3 + 2)
        have HST3 := Lib.hid (ho2.stored (j * 3 + 2) (.string u)).1
        have HB3 := Lib.hid (hbel.setCell (p := ⟨g, j * 3 + 2, none⟩) hB (.string u))
        have HON3 := Lib.hid (hon.put (g := g) (j := j * 3 + 2) (u := .string u) rfl)
        clear ho2 hbel hb2 o0 o1 f0 f1 hon HST HB2 HON2
        go_wp2
        go_roundw
        case rel => exact ⟨j + 1, _, by omega, by go_num, by go_num, by rw [show (j + 1) * 3 = j * 3 + 1 + 1 + 1 by omega]; exact HUP.out, HST3.out, HB3.out, HON3.out⟩
        case measure => simp [intOf]; omega
      · obtain rfl : j = n := by omega
        have e : ys = secV (marksS j) := by
          have h := HU.out
          rw [show j * 3 = (secV (marksS j)).length by rw [secV_len, marksS_len]] at h
          exact h.all
        have HO2 := Lib.hid (show OwnSec wr B (.slice (some ⟨g, 0, none⟩) j cap) (marksS j) by
          unfold OwnSec
          rw [marksS_len, ← e]; exact HOW.out)
        clear e HOW
        go_wp2
        go_ret
        exact ⟨by go_num, HO2.out, HBR.out, HON.out⟩

theorem drew_keepS {w w2 : World} {a : Addr} {v : Value} (h : w.cell? a = some v) (hb : Below w.drew.heap.size w.drew w2) : w2.cell? a = some v :=
  cell_below (w := w.drew) h hb
set_option maxHeartbeats 1000000 in
theorem heldsec_any (v : Value) (n : Nat) (B : Nat) (w : World) (hn : n ≤ 1048576) (ho : OwnSec w B v (marksS n)) :
    Calls Tryz.prog 10 #[v, .int .i64 1] w (fun e w' => e = .returned (.int .i64 (1 + 3 * n)) ∧ Below w.heap.size w w') := by
  rcases ho.form with ⟨rfl, e⟩ | ⟨g, cap, rfl, hB⟩
  · have h0 : n = 0 := by have := marksS_len n; rw [e] at this; exact this.symm
    subst h0
    clear ho e
    go_enter Tryz.func10, Tryz.ntmps10
    go_wp2
    go_rounds 1
    go_ret
    exact ⟨rfl, Below.refl _ _⟩
  · have hcell : ∀ j, j < n → w.cell? ⟨g, j * 3, none⟩ = some (.int .i64 ((1 + 3 * j : Nat) : Int)) ∧ w.cell? ⟨g, j * 3 + 1, none⟩ = some (.int .i64 ((1 + 3 * j + 1 : Nat) : Int)) ∧ w.cell? ⟨g, j * 3 + 2, none⟩ = some (.string (mtx (1 + 3 * j + 2))) := fun j hj => by
      have h' : w.ownsRow B 52 3 (.slice (some ⟨g, 0, none⟩) (marksS n).length cap) (marksS n).length (secV (marksS n)) := ho
      obtain ⟨v0, v1, v2⟩ := marksS_at n j hj
      rw [marksS_len] at h'
      exact ⟨(h'.cellAt (j * 3) (by omega)).trans v0, (h'.cellAt (j * 3 + 1) (by omega)).trans v1, (h'.cellAt (j * 3 + 2) (by omega)).trans v2⟩
    rw [marksS_len]
    have HC := Lib.hid hcell
    clear hcell ho
    go_enter Tryz.func10, Tryz.ntmps10
    go_wp2
    go_loopw [1, 5] (fun q i wr => ∃ (j : Nat), j ≤ n ∧ i = .int .i64 j ∧ q = .int .i64 ((1 + 3 * j : Nat) : Int) ∧ Below w.heap.size w wr) (fun _ i _ => n - (intOf i).toNat)
    case atStart => exact ⟨0, Nat.zero_le _, rfl, rfl, Below.refl _ _⟩
    case round =>
      obtain ⟨j, hj, rfl, rfl, hbel⟩ := hrel
      have HBR := Lib.hid hbel
      by_cases hlt : j < n
      · have hkn : (j : Int) < (n : Int) := by omega
        have HM := Lib.hid (fun w => mtx_any (1 + 3 * j + 2) w (by omega) (by omega))
        have c0 := cell_below (HC.out j hlt).1 hbel
        have c1 := cell_below (HC.out j hlt).2.1 hbel
        have c2 := cell_below (HC.out j hlt).2.2 hbel
        obtain ⟨u, hu⟩ : ∃ u, u = mtx (1 + 3 * j + 2) := ⟨_, rfl⟩
        rw [← hu] at HM c2
        clear hu hbel
        go_wp2_with (fail)
        go_region_with ((go_at_call 31; refine (HM.out _).mono ?_; rintro e w2 ⟨rfl, hb2⟩; have c22 := drew_keepS c2 hb2; have HB2 := Lib.hid (Below.next HBR.out.drew hb2); clear hb2))
        all_goals
          go_wp2
          go_roundw
          case rel => exact ⟨j + 1, by omega, by go_num, by go_num, HB2.out⟩
          case measure => simp [intOf]; omega
      · obtain rfl : j = n := by omega
        clear hbel
        go_wp2
        go_ret
        exact ⟨by go_num, HBR.out⟩
end Go.Proofs.YtlelcecbpahliaaGreatDoor
