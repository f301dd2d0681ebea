/- Marks in a row of strings read again; the comparison of two rows. -/
import Derived.Test.YtppfgcjeeokomaaDoorMarkT
namespace Go.Proofs.YtppfgcjeeokomaaDoor
open Go.ChangeShapes Go.WideShapes Go.ChangeAt Go.RowKit Pm

theorem marktext_at (j : Nat) (w : World) (h1 : j < 2097152) :
    Calls Tryd.prog 53 #[.int .i64 (1 + (j : Int))] w fun e w' => e = .returned (.string (mtext (1 + j))) ∧ Below w.heap.size w w' :=
  marktext_any (1 + j) w (by omega) (by omega)

theorem drew_keep {w w2 : World} {a : Addr} {v : Value} (h : w.cell? a = some v) (hb : Below w.drew.heap.size w.drew w2) : w2.cell? a = some v :=
  cell_below (w := w.drew) h hb

theorem heldt_any (v : Value) (n : Nat) (B : Nat) (w : World) (hn : n ≤ 2097152) (ho : w.ownsRow B 9 1 v n (strV (marksT 1 n))) :
    Calls Tryd.prog 30 #[v, .int .i64 1] w (fun e w' => e = .returned (.int .i64 (1 + n)) ∧ Below w.heap.size w w') := by
  rcases own_form ho with ⟨rfl, rfl⟩ | ⟨g, cap, rfl, hB⟩
  · clear ho
    go_enter Tryd.func30, Tryd.ntmps30
    go_wp2
    go_rounds 1
    go_ret
    exact ⟨by simp, Below.refl _ _⟩
  · have HO := Lib.hid ho
    clear ho
    go_enter Tryd.func30, Tryd.ntmps30
    go_wp2
    go_loopw [1, 5] (fun q i wr => ∃ (j : Nat), j ≤ n ∧ i = .int .i64 j ∧ q = .int .i64 ((1 + j : Nat) : Int) ∧ Below w.heap.size w wr) (fun _ i _ => n - (intOf i).toNat)
    case atStart => exact ⟨0, Nat.zero_le _, rfl, rfl, Below.refl _ _⟩
    case round =>
      obtain ⟨j, hj, rfl, rfl, hbel⟩ := hrel
      have HBR := Lib.hid hbel
      clear hbel
      by_cases hlt : j < n
      · have HM := Lib.hid (fun w => marktext_at j w (by omega))
        have hcell := (own_below HO.out HBR.out).cellAt j (by omega)
        rw [marksT_at 1 n j hlt] at hcell
        obtain ⟨u, hu⟩ : ∃ u, u = mtext (1 + j) := ⟨_, rfl⟩
        rw [← hu] at HM hcell
        clear hu
        go_wp2_with (fail)
        go_region_with ((go_at_call 53; refine (HM.out _).mono ?_; rintro e w2 ⟨rfl, hb2⟩; have hcell2 := drew_keep hcell hb2))
        all_goals
          have HB2 := Lib.hid ((Below.drew HBR.out).trans (Below.mono hb2 HBR.out.size))
          clear hb2
          go_wp2
          go_roundw
          case rel => exact ⟨j + 1, by omega, by go_num, by go_num, HB2.out⟩
          case measure => simp [intOf]; omega
      · obtain rfl : j = n := by omega
        go_wp2
        go_ret
        exact ⟨by go_num, HBR.out⟩

/-- A comparison of two rows that read as the same strings. -/
theorem eqstrs_same (v1 v2 : Value) (B1 B2 n1 n2 : Nat) (ps : List ByteArray) (w : World) (hm : ps.length ≤ 2097152) (h1 : w.ownsRow B1 9 1 v1 n1 (strV ps)) (h2 : w.ownsRow B2 9 1 v2 n2 (strV ps)) :
    Calls Tryd.prog 28 #[v1, v2] w fun e w' => e = .returned (.bool true) ∧ ∃ n, w' = w.drewN n := by
  have e1 : n1 = ps.length := by have := h1.1; rw [strV_len] at this; omega
  have e2 : n2 = ps.length := by have := h2.1; rw [strV_len] at this; omega
  subst e1; subst e2
  by_cases h0 : ps.length = 0
  · have f : ∀ {v B} (_ : w.ownsRow B 9 1 v ps.length (strV ps)), ∃ a c, v = .slice a 0 c := by
      intro v B h
      rcases own_form h with ⟨rfl, _⟩ | ⟨g, c, rfl, _⟩
      · exact ⟨_, _, rfl⟩
      · exact ⟨_, _, by rw [h0]⟩
    obtain ⟨a1, c1, rfl⟩ := f h1
    obtain ⟨a2, c2, rfl⟩ := f h2
    clear h1 h2 f
    go_enter Tryd.func28, Tryd.ntmps28
    go_wp2
    go_rounds 1
    go_ret
    exact ⟨rfl, 0, rfl⟩
  · obtain ⟨g1, c1, rfl, _, _⟩ := h1.form (by omega)
    obtain ⟨g2, c2, rfl, _, _⟩ := h2.form (by omega)
    have H1 := Lib.hid h1
    have H2 := Lib.hid h2
    clear h0 h1 h2
    go_enter Tryd.func28, Tryd.ntmps28
    go_wp2
    go_loopw [5] (fun i wr => ∃ (k m : Nat), k ≤ ps.length ∧ i = .int .i64 k ∧ wr = w.drewN m) (fun i _ => ps.length - (intOf i).toNat)
    case atStart => exact ⟨0, 0, Nat.zero_le _, rfl, rfl⟩
    case round =>
      obtain ⟨k, m, hk, rfl, rfl⟩ := hrel
      by_cases hlt : k < ps.length
      · have c1' := H1.out.cellAt k (by omega)
        have c2' := H2.out.cellAt k (by omega)
        rw [show (strV ps)[k]? = some (.string ps[k]) by simp [strV, hlt]] at c1' c2'
        generalize hz : ps[k] = z at c1' c2'
        clear hz
        have hki : (k : Int) < (ps.length : Int) := by omega
        go_wp2_with (fail)
        go_quiet (fail)
        go_wp2
        go_roundw
        case rel => exact ⟨k + 1, _, by omega, by go_num, rfl⟩
        case measure => simp [intOf]; omega
      · go_wp2
        go_ret
        exact ⟨rfl, _, rfl⟩
end Go.Proofs.YtppfgcjeeokomaaDoor
