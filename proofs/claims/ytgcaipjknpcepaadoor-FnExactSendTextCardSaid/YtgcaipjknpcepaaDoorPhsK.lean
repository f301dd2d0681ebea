/- The marks that the laws put into a row of phases and read again. -/
import Derived.Test.YtgcaipjknpcepaaDoorPhsL
import Derived.Test.YtgcaipjknpcepaaDoorText
import Derived.Deep.RegionWith
namespace Go.Proofs.YtgcaipjknpcepaaDoor
open Go.ChangeShapes Go.WideShapes Go.ChangeAt Go.RowKit Pm

/-- The marks, in order. -/
def marksP (n : Nat) : List Ph := (List.range n).map fun (j : Nat) => (mtext (1 + 2 * j), ((1 + 2 * j + 1 : Nat) : Int))
theorem marksP_len (n : Nat) : (marksP n).length = n := by simp [marksP]
theorem marksP_at (n j : Nat) (h : j < n) : (phV (marksP n))[j * 2]? = some (.string (mtext (1 + 2 * j))) ∧ (phV (marksP n))[j * 2 + 1]? = some (.int .i64 ((1 + 2 * j + 1 : Nat) : Int)) := by
  have := phV_at (marksP n) j (by rw [marksP_len]; exact h)
  have e : (marksP n).getD j ph0 = (mtext (1 + 2 * j), ((1 + 2 * j + 1 : Nat) : Int)) := by simp [marksP, h]
  rw [e] at this
  exact this
theorem row_below2 {w w' : World} {B s : Nat} {T : TypeId} {v : Value} {n : Nat} {xs : List Value} (h : w.ownsRow B T s v n xs) (hb : Below w.heap.size w w') : w'.ownsRow B T s v n xs := by
  refine ⟨h.1, ?_⟩
  rcases h.2 with h2 | ⟨g, cap, cur, h1, h3, h4, h5⟩
  · exact .inl h2
  · refine .inr ⟨g, cap, cur, h1, h3, ?_, h5⟩
    have hlt : g < w.heap.size := by
      rcases Nat.lt_or_ge g w.heap.size with h' | h'
      · exact h'
      · rw [Array.getElem?_eq_none h'] at h4; cases h4
    rw [hb.block g hlt]; exact h4

set_option maxHeartbeats 1000000 in
theorem markph_any (v : Value) (ps : List Ph) (B : Nat) (w : World) (hB0 : B ≤ w.heap.size) (hn : ps.length ≤ 1048576) (ho : OwnPh w B v ps) :
    Calls Tryd.prog 24 #[v, .int .i64 1] w (fun e w' => e = .returned (.int .i64 (1 + 2 * ps.length)) ∧ OwnPh w' B v (marksP ps.length) ∧ Below B w w') := by
  rcases ho.form with ⟨rfl, rfl⟩ | ⟨g, cap, rfl, hB⟩
  · clear ho
    go_enter Tryd.func24, Tryd.ntmps24
    go_wp2
    go_rounds 1
    go_ret
    exact ⟨rfl, OwnPh.none _ _, Below.refl _ _⟩
  · obtain ⟨n, hnn⟩ : ∃ n, n = ps.length := ⟨_, rfl⟩
    have HO := Lib.hid (show w.ownsRow B 42 2 (.slice (some ⟨g, 0, none⟩) n cap) n (phV ps) by rw [hnn]; exact ho)
    have hpl : (phV ps).length = n * 2 := by rw [phV_len, hnn]
    rw [← hnn] at hn ⊢
    clear ho hnn
    go_enter Tryd.func24, Tryd.ntmps24
    go_wp2
    go_loopw [1, 5] (fun q i wr => ∃ (j : Nat) (ys : List Value), j ≤ n ∧ i = .int .i64 j ∧ q = .int .i64 ((1 + 2 * j : Nat) : Int) ∧ PhUpto ys (j * 2) (phV (marksP n)) ∧ wr.ownsRow B 42 2 (.slice (some ⟨g, 0, none⟩) n cap) n ys ∧ Below B w wr) (fun _ i _ => n - (intOf i).toNat)
    case atStart => exact ⟨0, phV ps, Nat.zero_le _, rfl, rfl, ⟨by rw [hpl, phV_len, marksP_len], fun j hj => by omega⟩, HO.out, Below.refl _ _⟩
    case round =>
      obtain ⟨j, ys, hj, rfl, rfl, hup, hown, hbel⟩ := hrel
      have HU := Lib.hid hup
      have HOW := Lib.hid hown
      have HBR := Lib.hid hbel
      clear hup hown hbel
      by_cases hlt : j < n
      · have hkn : (j : Int) < (n : Int) := by omega
        have HM := Lib.hid (fun w => marktext_any (1 + 2 * j) w (by omega) (by omega))
        obtain ⟨v0, v1⟩ := marksP_at n j hlt
        have hyl : ys.length = n * 2 := by have := HU.out.1; rw [phV_len, marksP_len] at this; exact this
        have u1 := HU.out.step (u := .string (mtext (1 + 2 * j))) (by rw [phV_len, marksP_len]; omega) v0
        have u2 := u1.step (u := .int .i64 ((1 + 2 * j + 1 : Nat) : Int)) (by rw [phV_len, marksP_len]; omega) v1
        obtain ⟨u, hu⟩ : ∃ u, u = mtext (1 + 2 * j) := ⟨_, rfl⟩
        rw [← hu] at HM u2
        have HUP := Lib.hid u2
        clear hu u1 u2 v0 v1
        go_wp2_with (go_at_call 59; refine (HM.out _).mono ?_; rintro e w2 ⟨rfl, hb2⟩; refine Hid.out ?_)
        refine Lib.hid ?_
        have ho2 := row_below2 HOW.out hb2
        have hbel := HBR.out.trans (hb2.mono (Nat.le_trans hB0 HBR.out.size))
        obtain ⟨z0, o0⟩ : ∃ z, w2.cell? ⟨g, j * 2, none⟩ = some z := ⟨_, (ho2.cellAt (j * 2) (by omega)).trans (List.getElem?_eq_getElem (by omega))⟩
        obtain ⟨z1, o1⟩ : ∃ z, w2.cell? ⟨g, j * 2 + 1, none⟩ = some z := ⟨_, (ho2.cellAt (j * 2 + 1) (by omega)).trans (List.getElem?_eq_getElem (by omega))⟩
        have f0 := ho2.frozenAt (j * 2)
        have f1 := ho2.frozenAt (j * 2 + 1)
        have HST := Lib.hid ((ho2.stored (j * 2) (.string u)).1.stored (j * 2 + 1) (.int .i64 ((1 + 2 * j + 1 : Nat) : Int))).1
        have HB2 := Lib.hid ((hbel.setCell (p := ⟨g, j * 2, none⟩) hB (.string u)).setCell (p := ⟨g, j * 2 + 1, none⟩) hB (.int .i64 ((1 + 2 * j + 1 : Nat) : Int)))
        clear ho2 hbel hb2
        go_wp2
        go_roundw
        case rel => exact ⟨j + 1, _, by omega, by go_num, by go_num, by rw [show (j + 1) * 2 = j * 2 + 1 + 1 by omega]; exact HUP.out, HST.out, HB2.out⟩
        case measure => simp [intOf]; omega
      · obtain rfl : j = n := by omega
        have e : ys = phV (marksP j) := by
          have h := HU.out
          rw [show j * 2 = (phV (marksP j)).length by rw [phV_len, marksP_len]] at h
          exact h.all
        have HO2 := Lib.hid (show OwnPh wr B (.slice (some ⟨g, 0, none⟩) j cap) (marksP j) by
          unfold OwnPh
          rw [marksP_len, ← e]; exact HOW.out)
        clear e HOW
        go_wp2
        go_ret
        exact ⟨by go_num, HO2.out, HBR.out⟩

theorem drew_keepP {w w2 : World} {a : Addr} {v : Value} (h : w.cell? a = some v) (hb : Below w.drew.heap.size w.drew w2) : w2.cell? a = some v :=
  cell_below (w := w.drew) h hb
set_option maxHeartbeats 1000000 in
theorem heldph_any (v : Value) (n : Nat) (B : Nat) (w : World) (hn : n ≤ 1048576) (ho : OwnPh w B v (marksP n)) :
    Calls Tryd.prog 25 #[v, .int .i64 1] w (fun e w' => e = .returned (.int .i64 (1 + 2 * n)) ∧ Below w.heap.size w w') := by
  rcases ho.form with ⟨rfl, e⟩ | ⟨g, cap, rfl, hB⟩
  · have h0 : n = 0 := by have := marksP_len n; rw [e] at this; exact this.symm
    subst h0
    clear ho e
    go_enter Tryd.func25, Tryd.ntmps25
    go_wp2
    go_rounds 1
    go_ret
    exact ⟨rfl, Below.refl _ _⟩
  · have hcell : ∀ j, j < n → w.cell? ⟨g, j * 2, none⟩ = some (.string (mtext (1 + 2 * j))) ∧ w.cell? ⟨g, j * 2 + 1, none⟩ = some (.int .i64 ((1 + 2 * j + 1 : Nat) : Int)) := fun j hj => by
      have h' : w.ownsRow B 42 2 (.slice (some ⟨g, 0, none⟩) (marksP n).length cap) (marksP n).length (phV (marksP n)) := ho
      obtain ⟨v0, v1⟩ := marksP_at n j hj
      rw [marksP_len] at h'
      exact ⟨(h'.cellAt (j * 2) (by omega)).trans v0, (h'.cellAt (j * 2 + 1) (by omega)).trans v1⟩
    rw [marksP_len]
    have HC := Lib.hid hcell
    clear hcell ho
    go_enter Tryd.func25, Tryd.ntmps25
    go_wp2
    go_loopw [1, 5] (fun q i wr => ∃ (j : Nat), j ≤ n ∧ i = .int .i64 j ∧ q = .int .i64 ((1 + 2 * j : Nat) : Int) ∧ Below w.heap.size w wr) (fun _ i _ => n - (intOf i).toNat)
    case atStart => exact ⟨0, Nat.zero_le _, rfl, rfl, Below.refl _ _⟩
    case round =>
      obtain ⟨j, hj, rfl, rfl, hbel⟩ := hrel
      have HBR := Lib.hid hbel
      by_cases hlt : j < n
      · have hkn : (j : Int) < (n : Int) := by omega
        have HM := Lib.hid (fun w => marktext_any (1 + 2 * j) w (by omega) (by omega))
        have c0 := cell_below (HC.out j hlt).1 hbel
        have c1 := cell_below (HC.out j hlt).2 hbel
        obtain ⟨u, hu⟩ : ∃ u, u = mtext (1 + 2 * j) := ⟨_, rfl⟩
        rw [← hu] at HM c0
        clear hu hbel
        go_wp2_with (fail)
        go_region_with ((go_at_call 59; refine (HM.out _).mono ?_; rintro e w2 ⟨rfl, hb2⟩; have c02 := drew_keepP c0 hb2; have c12 := drew_keepP c1 hb2; have HB2 := Lib.hid (Below.next HBR.out.drew hb2); clear hb2))
        all_goals
          go_wp2
          go_roundw
          case rel => exact ⟨j + 1, by omega, by go_num, by go_num, HB2.out⟩
          case measure => simp [intOf]; omega
      · obtain rfl : j = n := by omega
        clear hbel
        go_wp2
        go_ret
        exact ⟨by go_num, HBR.out⟩
end Go.Proofs.YtgcaipjknpcepaaDoor
