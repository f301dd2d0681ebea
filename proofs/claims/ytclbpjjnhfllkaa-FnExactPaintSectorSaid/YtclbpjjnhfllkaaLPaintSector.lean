/- The law of PaintSector. -/
import Derived.Test.YtclbpjjnhfllkaaPntI
import Derived.Test.YtclbpjjnhfllkaaSctK
import Derived.Test.YtclbpjjnhfllkaaSctA
import Derived.Deep.RegionHeld3
namespace Go.Proofs.Ytclbpjjnhfllkaa
open Go.ChangeShapes Go.WideShapes Go.ChangeAt Go.RowKit Pm

theorem pntv_len (ps : List Sec) (p : Sec) : (pntV ps p).length ≤ 1048576 := by
  unfold pntV
  split
  · split
    · omega
    · simp
  · simp
theorem keepG {W0 w w1 : World} {b0 b1 b2 : Addr} {v0 v1 v2 : Value} {a1 : Option Addr} {n1 : Nat} {ps : List Sec} (hb : Below w.heap.size w w1)
    (h : w.cell? b0 = some v0 ∧ w.cell? b1 = some v1 ∧ w.cell? b2 = some v2 ∧ GotSec w a1 n1 ps ∧ Below W0.heap.size W0 w) : w1.cell? b0 = some v0 ∧ w1.cell? b1 = some v1 ∧ w1.cell? b2 = some v2 ∧ GotSec w1 a1 n1 ps ∧ Below W0.heap.size W0 w1 :=
  ⟨cell_below h.1 hb, cell_below h.2.1 hb, cell_below h.2.2.1 hb, h.2.2.2.1.below hb, Below.next h.2.2.2.2 hb⟩
set_option maxHeartbeats 8000000 in
theorem paintsector_law (a1 : Option Addr) (n1 c1 : Nat) (ps : List Sec) (f t : Int) (x : ByteArray) (wx : x.size ≤ maxLen) (w : World) (h1 : GotSec w a1 n1 ps) :
    Calls Try.prog 11 #[.slice a1 n1 c1, .agg #[.int .i64 f, .int .i64 t, .string x]] w fun e w' => e = .returned (.bool true) ∧ Below w.heap.size w w' := by
  have HB0 := Lib.hid (show Below w.heap.size w (w.alloc (.cells #[.int .i64 f, .int .i64 t, .string x] 23)) from (Below.refl _ _).alloc (Nat.le_refl _) _)
  have G1 := Lib.hid (h1.below HB0.out)
  have WX := Lib.hid wx
  clear h1 wx
  go_enter Try.func11, Try.ntmps11
  go_wp2_with (go_at_call 17; refine (szsecs_any _ _ _ ps 1048576 _ G1.out.arg G1.out.len G1.out.sz (by omega) (by omega)).mono ?_; rintro e w1 ⟨r, hr, rfl, hb⟩; refine Hid.out ?_)
  refine Lib.hid ?_
  have AC := Lib.hid (Below.next HB0.out hb)
  have G1 := Lib.hid (G1.out.below hb)
  have s0 : w1.cell? ⟨w.heap.size, 0, none⟩ = some (.int .i64 f) := cell_below (by simp) hb
  have s1 : w1.cell? ⟨w.heap.size, 1, none⟩ = some (.int .i64 t) := cell_below (by simp) hb
  have s2 : w1.cell? ⟨w.heap.size, 2, none⟩ = some (.string x) := cell_below (by simp) hb
  clear hb HB0
  rcases hr with rfl | ⟨r0, r1, l1, _⟩
  · go_wp2
    go_ret
    exact ⟨rfl, AC.out⟩
  have nr : ¬ r < 0 := by omega
  have hl1 : ps.length ≤ 1048576 := by omega
  have HZ := Lib.hid (fun w => szsec_any f t x r w r0 r1 WX.out)
  by_cases hl : r < (x.size : Int)
  · rw [if_pos hl] at HZ
    clear hl l1
    go_wp2_with (go_at_call 13; refine (HZ.out _).mono ?_; rintro e w2 ⟨rfl, hb⟩; have AC := Lib.hid (Below.next AC.out hb); clear hb)
    go_ret
    exact ⟨rfl, AC.out⟩
  rw [if_neg hl] at HZ
  have nr2 : ¬ r - (x.size : Int) < 0 := by omega
  clear hl l1 r0
  go_wp2_with (go_at_call 13; refine (HZ.out _).mono ?_; rintro e w2 ⟨rfl, hb⟩; refine Hid.out ?_)
  refine Lib.hid ?_
  have AC := Lib.hid (Below.next AC.out hb)
  have G1 := Lib.hid (G1.out.below hb)
  replace s0 := cell_below s0 hb
  replace s1 := cell_below s1 hb
  replace s2 := cell_below s2 hb
  clear hb HZ r1
  have HS := Lib.hid (fun w v h => spaint_any v ps f t x w hl1 h)
  have HI := Lib.hid (fun w v h => paintsec_any v ps f t x w h)
  have hm := pntv_len ps (f, t, x)
  obtain ⟨L, hL⟩ : ∃ L, L = pntV ps (f, t, x) := ⟨_, rfl⟩
  obtain ⟨cc, hcc⟩ : ∃ cc, cc = pntC ps (f, t, x) := ⟨_, rfl⟩
  rw [← hL, ← hcc] at HS HI
  rw [← hL] at hm
  clear hL hcc
  go_wp2_with (fail)
  go_region_held3 (fun w' => w'.cell? ⟨w.heap.size, 0, none⟩ = some (.int .i64 f) ∧ w'.cell? ⟨w.heap.size, 1, none⟩ = some (.int .i64 t) ∧ w'.cell? ⟨w.heap.size, 2, none⟩ = some (.string x) ∧ GotSec w' a1 n1 ps ∧ Below w2.heap.size w2 w')
    (first | assumption | exact keepG (by assumption) (by assumption) | exact keepG (Below.refl _ _).drew (by assumption) | exact keepG (Below.refl _ _).drew ⟨s0, s1, s2, G1.out, Below.refl _ _⟩ | exact ⟨s0, s1, s2, G1.out, Below.refl _ _⟩)
    (first
      | (go_at_call 19; refine (tosecs_any _ _ _ ps _ (by have hS : GotSec _ a1 n1 ps := (by assumption : _ ∧ _ ∧ _ ∧ GotSec _ a1 n1 ps ∧ _).2.2.2.1; exact hS.arg) hl1).mono ?_; rintro e wA ⟨vA, rfl, oA, hbA⟩)
      | (go_at_call 15; refine (tosec_any f t x _).mono ?_; rintro e wB ⟨rfl, hbB⟩)
      | (go_at_call 36; refine (HS.out _ vA (by first | exact (OwnSec.below oA hbB).are | exact oA.are)).mono ?_; rintro e wC ⟨vC, rfl, oC, hbC⟩))
  all_goals
    rename_i hH
    obtain ⟨s0, s1, s2, hG, hBl⟩ := hH
    have HSX := Lib.hid (And.intro s0 (And.intro s1 s2))
    have G1 := Lib.hid hG
    have AC := Lib.hid (Below.next AC.out hBl)
    have O1 := Lib.hid oC
    clear s0 s1 s2 hG hBl oA oC hbA hbB hbC
    obtain ⟨wb, hwb⟩ : ∃ wb, wb = wC := ⟨_, rfl⟩
    rw [← hwb] at G1 AC O1 HSX ⊢
    clear hwb
    go_wp2_with (go_at_call 19; refine (tosecs_any _ _ _ ps _ G1.out.arg hl1).mono ?_; rintro e wz ⟨v3, rfl, o, hb⟩; refine Hid.out ?_)
    refine Lib.hid ?_
    have OX := Lib.hid (o)
    have BK := Lib.hid (OwnSec.block o)
    have BC := Lib.hid (hb)
    have SZ := Lib.hid (hb.size)
    clear o hb
    have s0 := cell_below HSX.out.1 BC.out
    have s1 := cell_below HSX.out.2.1 BC.out
    have s2 := cell_below HSX.out.2.2 BC.out
    go_wp2_with (go_at_call 15; refine (tosec_any f t x _).mono ?_; rintro e wz ⟨rfl, hb⟩; refine Hid.out ?_)
    refine Lib.hid ?_
    have OX := Lib.hid (OX.out.below hb)
    have BK := Lib.hid (fun g h => Nat.lt_of_lt_of_le (BK.out g h) hb.size)
    have BC := Lib.hid (Below.next BC.out hb)
    have SZ := Lib.hid (BC.out.size)
    clear hb s0 s1 s2
    go_wp2_with (go_at_call 37; refine (HI.out _ _ OX.out.are).mono ?_; rintro e wz ⟨v4, rfl, o, hb⟩; refine Hid.out ?_)
    refine Lib.hid ?_
    have O2 := Lib.hid (o)
    have OX := Lib.hid (OX.out.below hb)
    have BC := Lib.hid (Below.next BC.out hb)
    clear o hb
    go_wp2_with (go_at_call 21; refine (eqsecs_same _ _ L _ hm O2.out.are (O1.out.below BC.out).are).mono ?_; rintro e wz ⟨rfl, hb⟩; refine Hid.out ?_)
    refine Lib.hid ?_
    have O2 := Lib.hid (O2.out.below hb)
    have OX := Lib.hid (OX.out.below hb)
    have BC := Lib.hid (Below.next BC.out hb)
    clear hb
    go_wp2_with (go_at_call 19; refine (tosecs_any _ _ _ ps _ (G1.out.below BC.out).arg hl1).mono ?_; rintro e wz ⟨v5, rfl, o, hb⟩; refine Hid.out ?_)
    refine Lib.hid ?_
    have O2 := Lib.hid (O2.out.below hb)
    have OX := Lib.hid (OX.out.below hb)
    have BC := Lib.hid (Below.next BC.out hb)
    have V5 := Lib.hid (o.are)
    clear o hb
    go_wp2_with (go_at_call 21; refine (eqsecs_same _ _ ps _ hl1 OX.out.are V5.out).mono ?_; rintro e wz ⟨rfl, hb⟩; refine Hid.out ?_)
    refine Lib.hid ?_
    have O2 := Lib.hid (O2.out.below hb)
    have OX := Lib.hid (OX.out.below hb)
    have BC := Lib.hid (Below.next BC.out hb)
    clear hb V5
    go_wp2_with (go_at_call 32; refine (marksec_any _ ps wb.heap.size _ BC.out.size hl1 OX.out).mono ?_; rintro e wz ⟨rfl, o, hb, hon⟩; refine Hid.out ?_)
    refine Lib.hid ?_
    have O2 := Lib.hid (hon.own BK.out O2.out)
    have BC := Lib.hid (BC.out.trans hb)
    clear o hb hon OX BK
    go_wp2_with (go_at_call 21; refine (eqsecs_same _ _ L _ hm O2.out.are (O1.out.below BC.out).are).mono ?_; rintro e wz ⟨rfl, hb⟩; refine Hid.out ?_)
    refine Lib.hid ?_
    have O2 := Lib.hid (O2.out.below hb)
    have BC := Lib.hid (Below.next BC.out hb)
    clear hb
    go_wp2_with (go_at_call 32; refine (marksec_any _ L wb.heap.size _ BC.out.size hm (O2.out.mono SZ.out)).mono ?_; rintro e wz ⟨rfl, o, hb, hon⟩; refine Hid.out ?_)
    refine Lib.hid ?_
    have O4 := Lib.hid (o)
    have BC := Lib.hid (BC.out.trans hb)
    clear o hb hon O2
    go_wp2_with (go_at_call 33; refine (heldsec_any _ L.length _ _ hm O4.out).mono ?_; rintro e wz ⟨rfl, hb⟩; refine Hid.out ?_)
    refine Lib.hid ?_
    have O4 := Lib.hid (O4.out.below hb)
    have BC := Lib.hid (Below.next BC.out hb)
    clear hb
    have s0 := cell_below HSX.out.1 BC.out
    have s1 := cell_below HSX.out.2.1 BC.out
    have s2 := cell_below HSX.out.2.2 BC.out
    have hGz := Lib.hid (G1.out.below BC.out)
    go_wp2_with (fail)
    go_region_held3 (fun w' => w'.cell? ⟨w.heap.size, 0, none⟩ = some (.int .i64 f) ∧ w'.cell? ⟨w.heap.size, 1, none⟩ = some (.int .i64 t) ∧ w'.cell? ⟨w.heap.size, 2, none⟩ = some (.string x) ∧ GotSec w' a1 n1 ps ∧ Below wz.heap.size wz w')
      (first | assumption | exact keepG (by assumption) (by assumption) | exact keepG (Below.refl _ _).drew (by assumption) | exact keepG (Below.refl _ _).drew ⟨s0, s1, s2, hGz.out, Below.refl _ _⟩ | exact ⟨s0, s1, s2, hGz.out, Below.refl _ _⟩)
      (first
        | (go_at_call 19; refine (tosecs_any _ _ _ ps _ (by have hS : GotSec _ a1 n1 ps := (by assumption : _ ∧ _ ∧ _ ∧ GotSec _ a1 n1 ps ∧ _).2.2.2.1; exact hS.arg) hl1).mono ?_; rintro e wA ⟨vA, rfl, oA, hbA⟩)
        | (go_at_call 15; refine (tosec_any f t x _).mono ?_; rintro e wB ⟨rfl, hbB⟩)
        | (go_at_call 37; refine (HI.out _ vA (by first | exact (OwnSec.below oA hbB).are | exact oA.are)).mono ?_; rintro e wC ⟨vC, rfl, oC, hbC⟩))
    all_goals
      rename_i hH
      obtain ⟨-, -, -, -, hb⟩ := hH
      have O2 := Lib.hid oC
      have O4 := Lib.hid (O4.out.below hb)
      have BC := Lib.hid (Below.next BC.out hb)
      clear hb s0 s1 s2 oA oC hbA hbB hbC hGz
      go_wp2_with (go_at_call 21; refine (eqsecs_same _ _ L _ hm O2.out.are (O1.out.below BC.out).are).mono ?_; rintro e wz ⟨rfl, hb⟩; refine Hid.out ?_)
      refine Lib.hid ?_
      have O4 := Lib.hid (O4.out.below hb)
      have BC := Lib.hid (Below.next BC.out hb)
      clear hb O2
      go_wp2_with (go_at_call 33; refine (heldsec_any _ L.length _ _ hm O4.out).mono ?_; rintro e wz ⟨rfl, hb⟩; refine Hid.out ?_)
      refine Lib.hid ?_
      have BC := Lib.hid (Below.next BC.out hb)
      clear hb
      go_wp2_with (fail)
      go_ret
      exact ⟨rfl, AC.out.trans (BC.out.mono AC.out.size)⟩
end Go.Proofs.Ytclbpjjnhfllkaa
