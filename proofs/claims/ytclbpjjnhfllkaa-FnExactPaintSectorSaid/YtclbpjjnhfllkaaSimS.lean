/- The model's simple list. -/
import Derived.Test.YtclbpjjnhfllkaaCir
import Derived.Test.YtclbpjjnhfllkaaSctN
import Derived.Test.YtclbpjjnhfllkaaKit
import Derived.Deep.QuietTactic
import Derived.BigQuiet
namespace Go.Proofs.Ytclbpjjnhfllkaa
open Go.ChangeShapes Go.WideShapes Go.ChangeAt Go.RowKit Pm

def cF (L : List ByteArray) (d : Nat) : ByteArray := L.getD d e0
theorem OwnSec.lit0 (w : World) : OwnSec (w.alloc (.cells #[] 26)) w.heap.size (.slice (some ⟨w.heap.size, 0, Option.none⟩) 0 0) [] := World.ownsRow_lit w #[] 0 (Nat.le_refl _) (by unfold maxLen; omega) rfl
theorem wpList_app_secm {ops : Array Oper} {rest : List Oper} {o : Oper} {a : Act} {Q : Exit → Act → World → Prop} (hgd : o.guard = none) (s x : Operand)
    (B : Nat) (v : Value) (ps : List Sec) (p : Sec) (w0 wr : World) (T : TypeId) (hown : OwnSec wr B v ps) (hb : Below B w0 wr) (hB : B ≤ w0.heap.size) (hl : ps.length ≤ 1048577)
    (ho : o.op = .call { callee := .builtin .append, args := #[s, x], argTypes := #[32, 32] })
    (hs : a.eval s = v) (n : Nat) (hn : wr.heap.size = n) (hx : a.eval x = .slice (some ⟨n, 0, none⟩) 1 1)
    (h : ∀ v' w', OwnSec w' B v' (ps ++ [p]) → Below B w0 w' → wpList Try.prog ops Q rest (a.put o.dst v') w') :
    wpList Try.prog ops Q (o :: rest) a (wr.alloc (.cells #[.int .i64 p.1, .int .i64 p.2.1, .string p.2.2] T)) := by
  subst hn
  exact wpList_app_sec hgd s x B v ps p w0 wr T hown hb hB hl ho hs hx h
theorem arcsOf_len (c : Nat → ByteArray) (dark : Bool) (k : Nat) : (arcsOf c dark k).length ≤ k := by
  unfold arcsOf
  rw [List.length_map]
  exact Nat.le_trans (List.length_filter_le _ _) (by simp)
theorem sameAll_step (c : Nat → ByteArray) (k : Nat) : sameAll c (k + 1) = (sameAll c k && sB (c k) (c 0)) := by
  unfold sameAll
  rw [List.range_succ, List.all_append]; simp
set_option maxRecDepth 100000 in
set_option maxHeartbeats 4000000 in
theorem ssimple_false (g B : Nat) (L : List ByteArray) (w : World) (ho : OwnC w B g 360 360 L) :
    Calls Try.prog 52 #[.slice (some ⟨g, 0, none⟩) 360 360, .bool false] w fun e w' => ∃ v, e = .returned v ∧ OwnSec w' w.heap.size v (simpV (cF L) false) ∧ Below w.heap.size w w' := by
  have HC := Lib.hid (show ∀ w', Below w.heap.size w w' → ∀ i, i < 360 → w'.cell? ⟨g, i, none⟩ = some (.string (cF L i)) from fun w' hb i hi => (ho.below hb).cell i hi)
  obtain ⟨c, hc⟩ : ∃ c, c = cF L := ⟨_, rfl⟩
  rw [← hc] at HC ⊢
  clear hc ho
  have HS0 := Lib.hid (show simpV c false = if (arcsOf c false 360).length = 0 ∧ drk (c 0) = false ∧ sameAll c 360 = true then [(0, 0, c 0)] else arcsOf c false 360 from rfl)
  obtain ⟨res, hres⟩ : ∃ r, r = simpV c false := ⟨_, rfl⟩
  rw [← hres] at HS0 ⊢
  clear hres
  go_enter Try.func52, Try.ntmps52
  go_wp2_with (fail)
  go_loopw [5, 6] (fun v i wr => ∃ (d : Nat), d ≤ 360 ∧ i = .int .i64 d ∧ OwnSec wr w.heap.size v (arcsOf c false d) ∧ Below w.heap.size w wr) (fun _ i _ => 360 - (intOf i).toNat)
  case atStart => exact ⟨0, Nat.zero_le _, rfl, OwnSec.lit0 w, by go_grown⟩
  case round =>
    obtain ⟨d, hd, rfl, hown, hbel⟩ := hrel
    have HO := Lib.hid hown
    have HB := Lib.hid hbel
    clear hown
    by_cases hlt : d < 360
    · have hdn : (d : Int) < 360 := by omega
      obtain ⟨q, hq⟩ : ∃ q : Nat, q = (d + 359) % 360 := ⟨_, rfl⟩
      have hq1 : q < 360 := by omega
      have hqi : ((d : Int) + 359).tmod 360 = (q : Int) := by rw [Int.tmod_eq_emod_of_nonneg (by omega), hq]; omega
      have x0 := HC.out wr hbel d hlt
      have x1 := HC.out wr hbel q hq1
      have HST := Lib.hid (arcsOf_step c false d)
      have HCH := Lib.hid (show chg c d = !sB (c q) (c d) by unfold chg; rw [hq])
      have hal := arcsOf_len c false d
      obtain ⟨L0, hL0⟩ : ∃ L0, L0 = arcsOf c false d := ⟨_, rfl⟩
      rw [← hL0] at HO HST hal
      have HQQ := Lib.hid hq
      have HDR := Lib.hid (show drk (c d) = (c d).toList.isEmpty from rfl)
      cases he : (c d).toList.isEmpty
      case true =>
        have HN := Lib.hid (show arcsOf c false (d + 1) = L0 by rw [HST.out, HDR.out, he]; rfl)
        generalize c d = s at *
        generalize c q = t at *
        clear hL0 hq hbel
        go_wp2_with (fail)
        go_quiet (fail)
        go_wp2_with (fail)
        go_roundw
        case rel => exact ⟨d + 1, by omega, by go_num, by rw [HN.out]; exact HO.out.drewN _, below_drewN HB.out _⟩
        case measure => simp [intOf]; omega
      case false =>
        cases hs : sB (c q) (c d)
        · have HN := Lib.hid (show arcsOf c false (d + 1) = L0 ++ [((d : Int), ((endAt c d % 360 : Nat) : Int), c d)] by rw [HST.out, HDR.out, HCH.out, he, hs]; rfl)
          have hsb : ((c q).toList == (c d).toList) = false := hs
          have HNE := Lib.hid (show c ((d + 359) % 360) ≠ c d by rw [← hq]; exact sB_no.1 hs)
          clear hL0 hq hs hbel
          obtain ⟨s, hsd⟩ : ∃ s, s = c d := ⟨_, rfl⟩
          rw [← hsd] at x0 he hsb HN HNE
          generalize c q = t at *
          have HSD := Lib.hid hsd
          clear hsd
          go_wp2_with (fail)
          go_quiet (fail)
          go_wp2_with (fail)
          obtain ⟨w2, hw2⟩ : ∃ w2, w2 = wr.drewN nq := ⟨_, rfl⟩
          have HB2 := Lib.hid (show Below w.heap.size w w2 by rw [hw2]; exact below_drewN HB.out _)
          have HO2 := Lib.hid (show OwnSec w2 w.heap.size u5 L0 by rw [hw2]; exact HO.out.drewN _)
          rw [← hw2]
          clear hw2 x0 x1 hsb
          go_loopw [7] (fun i wx => ∃ (t : Nat), d ≤ t ∧ t ≤ d + 359 ∧ i = .int .i64 t ∧ (∀ j, d ≤ j → j < t → c (j % 360) = s) ∧ OwnSec wx w.heap.size u5 L0 ∧ Below w.heap.size w wx) (fun i _ => d + 360 - (intOf i).toNat)
          case atStart => exact ⟨d, Nat.le_refl _, by omega, rfl, fun j h1 h2 => by omega, HO2.out, HB2.out⟩
          case round =>
            obtain ⟨t2, h1, h2, rfl, hj, hown, hbel⟩ := hrel
            have HJ := Lib.hid hj
            have HO3 := Lib.hid hown
            have HB3 := Lib.hid hbel
            clear hj hown
            obtain ⟨r, hr⟩ : ∃ r : Nat, r = t2 % 360 := ⟨_, rfl⟩
            have hr1 : r < 360 := by omega
            have hri : (t2 : Int).tmod 360 = (r : Int) := by rw [Int.tmod_eq_emod_of_nonneg (by omega), hr]; omega
            have y0 := HC.out wr hbel d hlt
            rw [← HSD.out] at y0
            have y1 := HC.out wr hbel r hr1
            cases hq2 : sB (c r) s
            · have hyb : ((c r).toList == s.toList) = false := hq2
              have HE := Lib.hid (show endAt c d = t2 from endAt_is ⟨h1, fun j a b => by rw [← HSD.out]; exact HJ.out j a b, by rw [← HSD.out, ← hr]; exact sB_no.1 hq2⟩)
              have HN2 := Lib.hid (show arcsOf c false (d + 1) = L0 ++ [((d : Int), (r : Int), s)] by rw [HN.out, HE.out, ← hr])
              generalize c r = z at *
              clear hq2 hr hbel
              go_wp2_with (fail)
              go_quiet (fail)
              go_wp2_with (at_builtin; (refine wpList_app_secm rfl _ _ w.heap.size _ L0 ((d : Int), (r : Int), s) w (wr.drewN nq) _ (HO3.out.drewN _) (below_drewN HB3.out _) (Nat.le_refl _) (by omega) rfl rfl _ (by simp) rfl ?_))
              intro v' w4 h4 hb4
              have HO4 := Lib.hid h4
              have HB4 := Lib.hid hb4
              clear h4 hb4
              go_wp2_with (fail)
              go_roundw
              case rel => exact ⟨d + 1, by omega, by go_num, by rw [HN2.out]; exact HO4.out, HB4.out⟩
              case measure => simp [intOf]; omega
            · have hyb : ((c r).toList == s.toList) = true := hq2
              have hne : t2 ≠ d + 359 := fun e => by
                apply HNE.out
                rw [← e, ← hr]; exact sB_iff.1 hq2
              have HJ2 := Lib.hid (show ∀ j, d ≤ j → j < t2 + 1 → c (j % 360) = s from fun j a b => by
                by_cases e : j < t2
                · exact HJ.out j a e
                · obtain rfl : j = t2 := by omega
                  rw [← hr]; exact sB_iff.1 hq2)
              generalize c r = z at *
              clear hq2 hr hbel
              go_wp2_with (fail)
              go_quiet (fail)
              go_wp2_with (fail)
              go_roundw
              case rel => exact ⟨t2 + 1, by omega, by omega, by go_num, HJ2.out, HO3.out.drewN _, below_drewN HB3.out _⟩
              case measure => simp [intOf]; omega
        · have HN := Lib.hid (show arcsOf c false (d + 1) = L0 by rw [HST.out, HCH.out, hs]; simp)
          have hsb : ((c q).toList == (c d).toList) = true := hs
          generalize c d = s at *
          generalize c q = t at *
          clear hL0 hq hs hbel
          go_wp2_with (fail)
          go_quiet (fail)
          go_wp2_with (fail)
          go_roundw
          case rel => exact ⟨d + 1, by omega, by go_num, by rw [HN.out]; exact HO.out.drewN _, below_drewN HB.out _⟩
          case measure => simp [intOf]; omega
    · obtain rfl : d = 360 := by omega
      have z0 := HC.out wr hbel 0 (by omega)
      have HDR := Lib.hid (show drk (c 0) = (c 0).toList.isEmpty from rfl)
      obtain ⟨A, hA⟩ : ∃ A, A = arcsOf c false 360 := ⟨_, rfl⟩
      have hal : A.length ≤ 360 := by rw [hA]; exact arcsOf_len c false 360
      rw [← hA] at HO HS0
      clear hA
      by_cases hA0 : A.length = 0
      · obtain rfl := List.length_eq_zero_iff.1 hA0
        cases he : (c 0).toList.isEmpty
        case true =>
          have HR := Lib.hid (show res = [] by rw [HS0.out, HDR.out, he]; simp)
          generalize c 0 = s at *
          rcases HO.out.form with ⟨rfl, _⟩ | ⟨g2, cap, rfl, _⟩
          all_goals
            clear hbel
            go_wp2_with (fail)
            go_ret
            exact ⟨_, rfl, by rw [HR.out]; exact HO.out, HB.out⟩
        case false =>
          have HR := Lib.hid (show ∀ b, sameAll c 360 = b → res = if b then [(0, 0, c 0)] else [] from fun b hb => by rw [HS0.out, HDR.out, he, hb]; cases b <;> rfl)
          obtain ⟨s, hsd⟩ : ∃ s, s = c 0 := ⟨_, rfl⟩
          have HSD := Lib.hid hsd
          rw [← hsd] at z0 he HR
          clear hsd
          rcases HO.out.form with ⟨rfl, _⟩ | ⟨g2, cap, rfl, _⟩
          all_goals
            clear hbel
            go_wp2_with (fail)
            go_loopw [8, 9] (fun b i wx => ∃ (k : Nat), k ≤ 360 ∧ i = .int .i64 k ∧ b = .bool (sameAll c k) ∧ OwnSec wx w.heap.size _ [] ∧ Below w.heap.size w wx) (fun _ i _ => 360 - (intOf i).toNat)
            case atStart => exact ⟨0, Nat.zero_le _, rfl, rfl, HO.out, HB.out⟩
            case round =>
              obtain ⟨k, hk, rfl, rfl, hown, hbel⟩ := hrel
              have HO2 := Lib.hid hown
              have HB2 := Lib.hid hbel
              clear hown
              by_cases hlt : k < 360
              · have hkn : (k : Int) < 360 := by omega
                have y0 := HC.out _ hbel 0 (by omega)
                rw [← HSD.out] at y0
                have y1 := HC.out _ hbel k hlt
                have HST := Lib.hid (sameAll_step c k)
                rw [← HSD.out] at HST
                cases hsk : sameAll c k
                · have HN := Lib.hid (show sameAll c (k + 1) = false by rw [HST.out, hsk]; rfl)
                  clear hbel hsk
                  go_wp2_with (fail)
                  go_quiet (fail)
                  go_wp2_with (fail)
                  go_roundw
                  case rel => exact ⟨k + 1, by omega, by go_num, by rw [HN.out], HO2.out.drewN _, below_drewN HB2.out _⟩
                  case measure => simp [intOf]; omega
                · have HN := Lib.hid (show sameAll c (k + 1) = sB (c k) s by rw [HST.out, hsk]; rfl)
                  cases hb2 : sB (c k) s
                  all_goals
                    have hyb : ((c k).toList == s.toList) = _ := hb2
                    rw [hb2] at HN
                    generalize c k = z at *
                    clear hbel hsk hb2
                    go_wp2_with (fail)
                    go_quiet (fail)
                    go_wp2_with (fail)
                    go_roundw
                    case rel => exact ⟨k + 1, by omega, by go_num, by rw [HN.out], HO2.out.drewN _, below_drewN HB2.out _⟩
                    case measure => simp [intOf]; omega
              · obtain rfl : k = 360 := by omega
                have y0 := HC.out _ hbel 0 (by omega)
                rw [← HSD.out] at y0
                cases hsk : sameAll c 360
                · have HR2 := Lib.hid (HR.out false hsk)
                  clear hbel hsk
                  go_wp2_with (fail)
                  go_ret
                  exact ⟨_, rfl, by rw [HR2.out]; exact HO2.out, HB2.out⟩
                · have HR2 := Lib.hid (HR.out true hsk)
                  clear hbel hsk
                  go_wp2_with (at_builtin; (refine wpList_app_secm rfl _ _ w.heap.size _ [] ((0 : Int), (0 : Int), s) w _ _ HO2.out HB2.out (Nat.le_refl _) (by simp) rfl rfl _ (by simp) rfl ?_))
                  intro v' w4 h4 hb4
                  have HO4 := Lib.hid h4
                  have HB4 := Lib.hid hb4
                  clear h4 hb4
                  go_wp2_with (fail)
                  go_ret
                  exact ⟨_, rfl, by rw [HR2.out]; exact HO4.out, HB4.out⟩
      · have HR := Lib.hid (show res = A by rw [HS0.out, if_neg (fun h => hA0 h.1)])
        rcases HO.out.form with ⟨_, e⟩ | ⟨g2, cap, rfl, _⟩
        · exact absurd (by rw [e]; rfl) hA0
        · have hne : ((A.length : Int) == 0) = false := by rw [beq_eq_false_iff_ne]; omega
          clear hbel hA0
          go_wp2_with (fail)
          go_ret
          exact ⟨_, rfl, by rw [HR.out]; exact HO.out, HB.out⟩
end Go.Proofs.Ytclbpjjnhfllkaa
