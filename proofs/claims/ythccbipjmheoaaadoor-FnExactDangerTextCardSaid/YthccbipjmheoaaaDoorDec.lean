/- The decimal form of a number: the model's own digits. -/
import Derived.Test.YthccbipjmheoaaaDoorDiv
import Derived.Test.YthccbipjmheoaaaDoorDecM
import Derived.LoopTactic
import Derived.Outline
import Derived.OwnWalk
import Derived.Laws.OwnMore
import Derived.Laws.IdiomStrings
import Derived.Lib.OwnKind
import Derived.Deep.AppendLies
namespace Go.Proofs.YthccbipjmheoaaaDoor
open Go.ChangeShapes Go.WideShapes Go.ChangeAt Go.RowKit Pm

theorem infoByte : (Tryd.prog.info? 5).map (fun i => (i.zero, i.size, i.bytes)) = some (some (.int .u8 0), 1, 1) := by kernel_rfl

/-- One byte more behind an owned row of bytes. -/
theorem row_snoc {w : World} {B : Nat} {E : TypeId} {v : Value} {ds : List UInt8} {c : UInt8} {x : Int} (hx : x = (c.toNat : Int)) (h : w.ownsRow B E 1 v (ds.length + 1) (Lib.byteCells ds ++ [.int .u8 x])) :
    w.ownsRow B E 1 v (ds ++ [c]).length (Lib.byteCells (ds ++ [c])) := by
  subst hx
  have e1 : (ds ++ [c]).length = ds.length + 1 := by simp
  have e2 : Lib.byteCells (ds ++ [c]) = Lib.byteCells ds ++ [.int .u8 (c.toNat : Int)] := by simp [Lib.byteCells]
  rw [e1, e2]; exact h

/-- The world behind an append of one new cell to a row of the call's own. -/
theorem below_app {B : Nat} {w wr w1 : World} {o : Obj} {E : TypeId} {v : Value} {n : Nat} {xs : List Value} (hb : Below B w wr) (hB : B ≤ w.heap.size) (hown : wr.ownsRow B E 1 v n xs) (hg : (wr.alloc o).grownBy w1 v.ownBlock) : Below B w w1 :=
  (hb.alloc (Nat.le_trans hB hb.size) o).grown hg (by have := hb.size; simp; omega) (fun k hk => (hown.lt k hk).1)

theorem app_cells (wr : World) (x : Value) (T : TypeId) : ∀ j u, [x][j]? = some u → (wr.alloc (.cells #[x] T)).cell? ((⟨wr.heap.size, 0, none⟩ : Addr).add j) = some u := by
  intro j u hj
  match j, hj with
  | 0, hj => simp at hj; subst hj; simp [Addr.add]

theorem low_step (z : Int) (ds l : List UInt8) (hz : z.natAbs ≠ 0) (q : Int) (hq : q.natAbs = z.natAbs / 10) (h : ds ++ low z.natAbs = l) : (ds ++ [UInt8.ofNat (48 + z.natAbs % 10)]) ++ low q.natAbs = l := by
  rw [hq, ← h, low_pos hz, List.append_assoc]; rfl

set_option maxRecDepth 100000 in
set_option maxHeartbeats 800000 in
theorem sdec_walk (n : Int) (w : World) (h0 : n ≠ 0) (hlo : -9223372036854775808 ≤ n) (hhi : n ≤ 9223372036854775807) :
    Calls Tryd.prog 48 #[.int .i64 n] w fun e w' => e = .returned (.string ⟨(Lib.itoa n).toArray⟩) ∧ Below w.heap.size w w' := by
  obtain ⟨i0, hi, hz0, hz1, hz2⟩ := info_parts infoByte
  have hne : (n == 0) = false := by simpa using h0
  have HL := Lib.hid (low_len 64 n.natAbs (by omega))
  go_enter Tryd.func48, Tryd.ntmps48
  go_wp2_with (fail)
  go_loopw [3, 4] (fun v m wr => ∃ (z : Int) (ds : List UInt8), m = .int .i64 z ∧ -9223372036854775808 ≤ z ∧ z ≤ 9223372036854775807 ∧ ds ++ low z.natAbs = low n.natAbs ∧ wr.ownsRow w.heap.size 5 1 v ds.length (Lib.byteCells ds) ∧ Below w.heap.size w wr) (fun _ m _ => (intOf m).natAbs)
  case atStart => exact ⟨n, [], rfl, hlo, hhi, rfl, World.ownsRow_lit w #[] 0 (Nat.le_refl _) (by unfold maxLen; omega) rfl, (Below.refl _ _).alloc (Nat.le_refl _) _⟩
  case round =>
    obtain ⟨z, ds, rfl, z0, z1, hds, hown, hbel⟩ := hrel
    have HDS := Lib.hid hds
    clear hds
    have hlen : ds.length + (low z.natAbs).length ≤ 64 := by
      have := HL.out
      rw [← HDS.out, List.length_append] at this
      exact this
    have hl2 : ds.length ≤ 64 := by omega
    clear hlen
    have HB := Lib.hid hbel
    clear hbel
    by_cases hz : z = 0
    · subst hz
      have hfull : low n.natAbs = ds := by rw [← HDS.out, show (0 : Int).natAbs = 0 from rfl, low_zero, List.append_nil]
      have hfin : ∀ (b : List UInt8), b = back n → b.reverse = Lib.itoa n := fun b hb => by rw [hb]; exact back_rev n h0
      have HF := Lib.hid hfin
      clear hfin
      by_cases hneg : n < 0
      · have hbk : ds ++ [45] = back n := by unfold back; rw [if_pos hneg, hfull]
        have HBK := Lib.hid hbk
        clear hbk hfull
        go_wp2_with (at_builtin; refine wpList_append_own _ rfl (.tmp 30) (.tmp 31) 71 rfl w.heap.size 5 i0 (.int .u8 0) 1 1 Tryd.underlying71 hi hz0 hz1 hz2 rfl (by decide) _ _ _ rfl (hown.alloc _) ⟨wr.heap.size, 0, none⟩ 1 1 [.int .u8 45] rfl rfl (app_cells _ _ _) (by intro u hu; simp at hu; subst hu; rfl) (by unfold maxLen; omega) (by omega) (by have := HB.out.size; simp; omega) ?_)
        intro V W1 hown' hgrow _
        have hown2 := row_snoc (c := 45) rfl hown'
        have hb2 := below_app HB.out (Nat.le_refl _) hown hgrow
        clear hown' hgrow hown
        obtain ⟨bl, hbl⟩ : ∃ bl, bl = back n := ⟨_, rfl⟩
        have hown3 : W1.ownsRow w.heap.size 5 1 V bl.length (Lib.byteCells bl) := by rw [hbl, ← HBK.out]; exact hown2
        have hrev := HF.out bl hbl
        have hpos : 0 < bl.length := by
          have : bl ≠ [] := by
            intro e
            rw [e] at hrev
            have h2 : (Lib.itoa n).length = 0 := by rw [← hrev]; rfl
            have h3 := back_rev n h0
            rw [← hbl, e] at h3
            rw [hbl] at e
            unfold back at e
            rw [low_pos (by omega)] at e
            split at e <;> simp at e
          exact List.length_pos_iff.2 this
        have hl65 : bl.length ≤ 65 := by
          have := HL.out
          rw [hbl]; unfold back; split
          · simp; omega
          · omega
        have HREV := Lib.hid hrev
        clear hbl hrev hown2 HF HBK HDS HL
        obtain ⟨g, cap, rfl, hg1, hg2⟩ := hown3.form hpos
        have HO := Lib.hid hown3
        have HB2 := Lib.hid hb2
        clear hown3 hb2
        go_wp2_with (fail)
        go_loopw [6, 7] (fun v i wr2 => ∃ (k : Nat) (x : Int), i = .int .i64 x ∧ x = (k : Int) - 1 ∧ k ≤ bl.length ∧ wr2.ownsRow W1.heap.size 5 1 v (bl.drop k).reverse.length (Lib.byteCells (bl.drop k).reverse) ∧ wr2.ownsRow w.heap.size 5 1 (.slice (some ⟨g, 0, none⟩) bl.length cap) bl.length (Lib.byteCells bl) ∧ Below w.heap.size w wr2 ∧ W1.heap.size ≤ wr2.heap.size) (fun _ i _ => (intOf i + 1).toNat)
        case atStart => exact ⟨bl.length, _, rfl, by first | rfl | omega, Nat.le_refl _, by rw [List.drop_length]; exact World.ownsRow_lit W1 #[] 0 (Nat.le_refl _) (by unfold maxLen; omega) rfl, HO.out.alloc _, HB2.out.alloc HB2.out.size _, by simp⟩
        case round =>
          obtain ⟨k, x, rfl, hx, hk, hout, hdig, hbel2, hsz⟩ := hrel
          by_cases hk0 : k = 0
          · subst hk0
            obtain rfl : x = -1 := by omega
            have hpos2 : 0 < (bl.drop 0).reverse.length := by simpa using hpos
            obtain ⟨g2, cap2, rfl, _, _⟩ := hout.form hpos2
            rw [List.drop_zero] at hout hpos2
            obtain ⟨rl, hrl⟩ : ∃ rl, rl = bl.reverse := ⟨_, rfl⟩
            rw [← hrl] at hout hpos2
            have HRL := Lib.hid (hrl.trans HREV.out)
            clear hrl hx
            have hcv := run_convert_bytes_back (P := Tryd.prog) wr 71 9 5 ⟨g2, 0, none⟩ cap2 rl Tryd.underlying71 Tryd.underlying5 Tryd.underlying9 (fun j hj => hout.cells (g := g2) rfl j (.int .u8 (rl[j].toNat : Int)) (by simp [Lib.byteCells, hj]))
            have HB3 := Lib.hid hbel2
            have hform : (bl.drop 0).reverse.length = rl.length := by rw [HRL.out, ← HREV.out, List.drop_zero]
            simp only [hform]
            clear hout hdig hbel2 hsz hform
            go_wp2
            go_ret
            exact ⟨by rw [HRL.out]; rfl, HB3.out⟩
          · obtain ⟨k', rfl⟩ : ∃ k', k = k' + 1 := ⟨k - 1, by omega⟩
            obtain rfl : x = (k' : Int) := by omega
            have hk' : k' < bl.length := by omega
            obtain ⟨c, hc⟩ : ∃ c, c = bl[k'] := ⟨_, rfl⟩
            have hcell : wr.cell? ⟨g, k', none⟩ = some (.int .u8 (c.toNat : Int)) := by
              rw [hdig.cellAt k' (by omega), hc]; simp [Lib.byteCells, hk']
            have hstep : (bl.drop k').reverse = (bl.drop (k' + 1)).reverse ++ [c] := by
              rw [hc, List.drop_eq_getElem_cons hk', List.reverse_cons]
            have HST := Lib.hid hstep
            clear hstep hc hx
            have hol : (bl.drop (k' + 1)).reverse.length ≤ 65 := by simp; omega
            generalize hob : (bl.drop (k' + 1)).reverse = ob at *
            clear hob
            have HBB := Lib.hid hbel2
            have hne2 : (Value.slice (some ⟨g, 0, none⟩) bl.length cap).ownBlock ≠ u6.ownBlock := by
              intro e
              rcases hout.lt g e.symm with ⟨h1, _⟩
              omega
            clear hbel2
            go_wp2_with (at_builtin; refine wpList_append_own _ rfl (.tmp 41) (.tmp 46) 71 rfl W1.heap.size 5 i0 (.int .u8 0) 1 1 Tryd.underlying71 hi hz0 hz1 hz2 rfl (by decide) _ _ _ rfl (hout.alloc _) ⟨wr.heap.size, 0, none⟩ 1 1 [.int .u8 (c.toNat : Int)] rfl rfl (app_cells _ _ _) (by intro u hu; simp at hu; subst hu; rfl) (by unfold maxLen; omega) (by omega) (by simp; omega) ?_)
            intro V3 W3 hown' hgrow _
            have hown4 := row_snoc (c := c) rfl hown'
            have hdig2 := (hdig.alloc _).kept hgrow (.inr hne2)
            have hb4 : Below w.heap.size w W3 := (HBB.out.alloc HBB.out.size _).grown hgrow (by have := HBB.out.size; simp; omega) (fun q hq => by have := (hout.lt q hq).1; have := HB2.out.size; omega)
            have hsz4 : W1.heap.size ≤ W3.heap.size := by have := hgrow.size; simp at this; omega
            rw [← HST.out] at hown4
            have HO4 := Lib.hid hown4
            have HD4 := Lib.hid hdig2
            have HB4 := Lib.hid hb4
            clear hown' hgrow hown4 hdig2 hb4 hout hdig hcell
            go_wp2
            go_roundw
            case rel => exact ⟨k', _, rfl, rfl, by omega, HO4.out, HD4.out, HB4.out, hsz4⟩
            case measure => simp only [intOf]; omega
      · have hbk : ds = back n := by unfold back; rw [if_neg hneg, hfull]
        have HBK := Lib.hid hbk
        clear hbk hfull
        have hown2 := hown
        have hb2 := HB.out
        clear hown HB
        obtain ⟨W1, rfl⟩ : ∃ W1 : World, W1 = wr := ⟨_, rfl⟩
        obtain ⟨V, rfl⟩ : ∃ V : Value, V = u3 := ⟨_, rfl⟩
        obtain ⟨bl, hbl⟩ : ∃ bl, bl = back n := ⟨_, rfl⟩
        have hown3 : W1.ownsRow w.heap.size 5 1 V bl.length (Lib.byteCells bl) := by rw [hbl, ← HBK.out]; exact hown2
        have hrev := HF.out bl hbl
        have hpos : 0 < bl.length := by
          have : bl ≠ [] := by
            intro e
            rw [e] at hrev
            have h2 : (Lib.itoa n).length = 0 := by rw [← hrev]; rfl
            have h3 := back_rev n h0
            rw [← hbl, e] at h3
            rw [hbl] at e
            unfold back at e
            rw [low_pos (by omega)] at e
            split at e <;> simp at e
          exact List.length_pos_iff.2 this
        have hl65 : bl.length ≤ 65 := by
          have := HL.out
          rw [hbl]; unfold back; split
          · simp; omega
          · omega
        have HREV := Lib.hid hrev
        clear hbl hrev hown2 HF HBK HDS HL
        obtain ⟨g, cap, rfl, hg1, hg2⟩ := hown3.form hpos
        have HO := Lib.hid hown3
        have HB2 := Lib.hid hb2
        clear hown3 hb2
        go_wp2_with (fail)
        go_loopw [6, 7] (fun v i wr2 => ∃ (k : Nat) (x : Int), i = .int .i64 x ∧ x = (k : Int) - 1 ∧ k ≤ bl.length ∧ wr2.ownsRow W1.heap.size 5 1 v (bl.drop k).reverse.length (Lib.byteCells (bl.drop k).reverse) ∧ wr2.ownsRow w.heap.size 5 1 (.slice (some ⟨g, 0, none⟩) bl.length cap) bl.length (Lib.byteCells bl) ∧ Below w.heap.size w wr2 ∧ W1.heap.size ≤ wr2.heap.size) (fun _ i _ => (intOf i + 1).toNat)
        case atStart => exact ⟨bl.length, _, rfl, by first | rfl | omega, Nat.le_refl _, by rw [List.drop_length]; exact World.ownsRow_lit W1 #[] 0 (Nat.le_refl _) (by unfold maxLen; omega) rfl, HO.out.alloc _, HB2.out.alloc HB2.out.size _, by simp⟩
        case round =>
          obtain ⟨k, x, rfl, hx, hk, hout, hdig, hbel2, hsz⟩ := hrel
          by_cases hk0 : k = 0
          · subst hk0
            obtain rfl : x = -1 := by omega
            have hpos2 : 0 < (bl.drop 0).reverse.length := by simpa using hpos
            obtain ⟨g2, cap2, rfl, _, _⟩ := hout.form hpos2
            rw [List.drop_zero] at hout hpos2
            obtain ⟨rl, hrl⟩ : ∃ rl, rl = bl.reverse := ⟨_, rfl⟩
            rw [← hrl] at hout hpos2
            have HRL := Lib.hid (hrl.trans HREV.out)
            clear hrl hx
            have hcv := run_convert_bytes_back (P := Tryd.prog) wr 71 9 5 ⟨g2, 0, none⟩ cap2 rl Tryd.underlying71 Tryd.underlying5 Tryd.underlying9 (fun j hj => hout.cells (g := g2) rfl j (.int .u8 (rl[j].toNat : Int)) (by simp [Lib.byteCells, hj]))
            have HB3 := Lib.hid hbel2
            have hform : (bl.drop 0).reverse.length = rl.length := by rw [HRL.out, ← HREV.out, List.drop_zero]
            simp only [hform]
            clear hout hdig hbel2 hsz hform
            go_wp2
            go_ret
            exact ⟨by rw [HRL.out]; rfl, HB3.out⟩
          · obtain ⟨k', rfl⟩ : ∃ k', k = k' + 1 := ⟨k - 1, by omega⟩
            obtain rfl : x = (k' : Int) := by omega
            have hk' : k' < bl.length := by omega
            obtain ⟨c, hc⟩ : ∃ c, c = bl[k'] := ⟨_, rfl⟩
            have hcell : wr.cell? ⟨g, k', none⟩ = some (.int .u8 (c.toNat : Int)) := by
              rw [hdig.cellAt k' (by omega), hc]; simp [Lib.byteCells, hk']
            have hstep : (bl.drop k').reverse = (bl.drop (k' + 1)).reverse ++ [c] := by
              rw [hc, List.drop_eq_getElem_cons hk', List.reverse_cons]
            have HST := Lib.hid hstep
            clear hstep hc hx
            have hol : (bl.drop (k' + 1)).reverse.length ≤ 65 := by simp; omega
            generalize hob : (bl.drop (k' + 1)).reverse = ob at *
            clear hob
            have HBB := Lib.hid hbel2
            have hne2 : (Value.slice (some ⟨g, 0, none⟩) bl.length cap).ownBlock ≠ u6.ownBlock := by
              intro e
              rcases hout.lt g e.symm with ⟨h1, _⟩
              omega
            clear hbel2
            go_wp2_with (at_builtin; refine wpList_append_own _ rfl (.tmp 41) (.tmp 46) 71 rfl W1.heap.size 5 i0 (.int .u8 0) 1 1 Tryd.underlying71 hi hz0 hz1 hz2 rfl (by decide) _ _ _ rfl (hout.alloc _) ⟨wr.heap.size, 0, none⟩ 1 1 [.int .u8 (c.toNat : Int)] rfl rfl (app_cells _ _ _) (by intro u hu; simp at hu; subst hu; rfl) (by unfold maxLen; omega) (by omega) (by simp; omega) ?_)
            intro V3 W3 hown' hgrow _
            have hown4 := row_snoc (c := c) rfl hown'
            have hdig2 := (hdig.alloc _).kept hgrow (.inr hne2)
            have hb4 : Below w.heap.size w W3 := (HBB.out.alloc HBB.out.size _).grown hgrow (by have := HBB.out.size; simp; omega) (fun q hq => by have := (hout.lt q hq).1; have := HB2.out.size; omega)
            have hsz4 : W1.heap.size ≤ W3.heap.size := by have := hgrow.size; simp at this; omega
            rw [← HST.out] at hown4
            have HO4 := Lib.hid hown4
            have HD4 := Lib.hid hdig2
            have HB4 := Lib.hid hb4
            clear hown' hgrow hown4 hdig2 hb4 hout hdig hcell
            go_wp2
            go_roundw
            case rel => exact ⟨k', _, rfl, rfl, by omega, HO4.out, HD4.out, HB4.out, hsz4⟩
            case measure => simp only [intOf]; omega
    · by_cases hp : 0 < z
      · have hzz : (z == 0) = false := by simpa using hz
        have HZ := Lib.hid hz
        clear hz
        go_wp2_with (at_builtin; refine wpList_append_own _ rfl _ _ 71 rfl w.heap.size 5 i0 (.int .u8 0) 1 1 Tryd.underlying71 hi hz0 hz1 hz2 rfl (by decide) _ _ _ rfl (hown.alloc _) ⟨wr.heap.size, 0, none⟩ 1 1 [.int .u8 (48 + z % 10)] rfl rfl (app_cells _ _ _) (by intro u hu; simp at hu; subst hu; rfl) (by unfold maxLen; omega) (by omega) (by have := HB.out.size; simp; omega) ?_)
        intro v' w1 hown' hgrow _
        have hown2 := row_snoc (c := UInt8.ofNat (48 + z.natAbs % 10)) (by rw [digit_val]; omega) hown'
        have hb2 := below_app HB.out (Nat.le_refl _) hown hgrow
        clear hown' hgrow hown
        have HO := Lib.hid hown2
        have HB2 := Lib.hid hb2
        clear hown2 hb2
        go_wp2
        go_roundw
        case rel => exact ⟨z / 10, _, rfl, by omega, by omega, low_step z ds _ (by have := HZ.out; omega) _ (by omega) HDS.out, HO.out, HB2.out⟩
        case measure => simp only [intOf]; omega
      · obtain ⟨y, rfl⟩ : ∃ y, z = -y := ⟨-z, by omega⟩
        have hy : 0 < y := by omega
        have hzz : (-y == 0) = false := by simpa using hz
        clear hp hz
        have HW := Lib.hid (show wrap64 (-y.tdiv 10) = -(y / 10) by rw [Int.tdiv_eq_ediv_of_nonneg (by omega), IntWalk.wrap64_in _ ⟨by omega, by omega⟩])
        by_cases hr : 0 < y % 10
        · go_wp2_with (at_builtin; refine wpList_append_own _ rfl _ _ 71 rfl w.heap.size 5 i0 (.int .u8 0) 1 1 Tryd.underlying71 hi hz0 hz1 hz2 rfl (by decide) _ _ _ rfl (hown.alloc _) ⟨wr.heap.size, 0, none⟩ 1 1 [.int .u8 (48 + y % 10)] rfl rfl (app_cells _ _ _) (by intro u hu; simp at hu; subst hu; rfl) (by unfold maxLen; omega) (by omega) (by have := HB.out.size; simp; omega) ?_)
          intro v' w1 hown' hgrow _
          have hown2 := row_snoc (c := UInt8.ofNat (48 + (-y).natAbs % 10)) (by rw [digit_val]; omega) hown'
          have hb2 := below_app HB.out (Nat.le_refl _) hown hgrow
          clear hown' hgrow hown
          have HO := Lib.hid hown2
          have HB2 := Lib.hid hb2
          clear hown2 hb2
          go_wp2
          go_roundw
          case rel => exact ⟨-(y / 10), _, ret_v HW.out, by omega, by omega, low_step (-y) ds _ (by omega) _ (by omega) HDS.out, HO.out, HB2.out⟩
          case measure => simp only [intOf]; rw [HW.out]; omega
        · go_wp2_with (at_builtin; refine wpList_append_own _ rfl _ _ 71 rfl w.heap.size 5 i0 (.int .u8 0) 1 1 Tryd.underlying71 hi hz0 hz1 hz2 rfl (by decide) _ _ _ rfl (hown.alloc _) ⟨wr.heap.size, 0, none⟩ 1 1 [.int .u8 (48 + -(y % 10))] rfl rfl (app_cells _ _ _) (by intro u hu; simp at hu; subst hu; rfl) (by unfold maxLen; omega) (by omega) (by have := HB.out.size; simp; omega) ?_)
          intro v' w1 hown' hgrow _
          have hown2 := row_snoc (c := UInt8.ofNat (48 + (-y).natAbs % 10)) (by rw [digit_val]; omega) hown'
          have hb2 := below_app HB.out (Nat.le_refl _) hown hgrow
          clear hown' hgrow hown
          have HO := Lib.hid hown2
          have HB2 := Lib.hid hb2
          clear hown2 hb2
          go_wp2
          go_roundw
          case rel => exact ⟨-(y / 10), _, ret_v HW.out, by omega, by omega, low_step (-y) ds _ (by omega) _ (by omega) HDS.out, HO.out, HB2.out⟩
          case measure => simp only [intOf]; rw [HW.out]; omega

theorem sdec_any (n : Int) (w : World) (hlo : -9223372036854775808 ≤ n) (hhi : n ≤ 9223372036854775807) :
    Calls Tryd.prog 48 #[.int .i64 n] w fun e w' => e = .returned (.string ⟨(Lib.itoa n).toArray⟩) ∧ Below w.heap.size w w' := by
  by_cases h0 : n = 0
  · subst h0
    go_enter Tryd.func48, Tryd.ntmps48
    go_wp2
    go_ret
    exact ⟨by rw [show Lib.itoa 0 = [48] by unfold Lib.itoa; rw [if_neg (by omega)]; exact Lib.decDigits_one (i := 0) (by omega)]; rfl, Below.refl _ _⟩
  · exact sdec_walk n w h0 hlo hhi

end Go.Proofs.YthccbipjmheoaaaDoor
