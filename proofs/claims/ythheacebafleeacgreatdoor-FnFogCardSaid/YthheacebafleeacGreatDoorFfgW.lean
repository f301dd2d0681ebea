/- The walk of the law of fog signals. -/
import Derived.Test.YthheacebafleeacGreatDoorFfgX
import Derived.Test.YthheacebafleeacGreatDoorFfhX
import Derived.Test.YthheacebafleeacGreatDoorTimX
import Derived.Test.YthheacebafleeacGreatDoorRdgJ
import Derived.Test.YthheacebafleeacGreatDoorPowI
import Derived.Laws.StructEq
namespace Go.Proofs.YthheacebafleeacGreatDoor
open Go.ChangeShapes Go.WideShapes Go.ChangeAt Go.RowKit Pm

set_option maxRecDepth 100000 in
theorem neq_fog (k b p q : Int) (w : World) :
    (binOp .neq 25 (.agg #[.int .i64 k, .int .i64 b, .int .i64 p, .int .i64 q]) (.agg #[.int .i64 k, .int .i64 b, .int .i64 p, .int .i64 q])).run Tryz.prog w = .ok (.bool false) w := by
  have hS : Tryz.prog.underlying 25 = some (.struct (Tryz.prog.fieldsOf 25)) := by kernel_rfl
  have hp : Tryz.prog.stoodInHeld 25 = false := by kernel_rfl
  rw [run_neq_struct, show (10000 : Nat) = 9999 + 1 from rfl, run_equalIn_agg w 9999 25 _ _ hS hp]
  simp only [Program.fieldsOf, Tryz.underlying25]
  go_simp
theorem flong_is (a : Option Addr) (l c : Nat) (w : World) :
    Calls Tryz.prog 4 #[.slice a l c] w fun e w' => e = .returned (.bool (decide ((1048576 : Int) < (l : Int)))) ∧ w = w' := by
  go_enter Tryz.func4, Tryz.ntmps4
  go_wp2
  go_ret
  exact ⟨rfl, rfl⟩
theorem snd_in (q v : Int) (w : World) (hS : SndsAt w) (hq : 60 ≤ q ∧ q ≤ 140) (hv : -3 ≤ v ∧ v ≤ 3) :
    Calls Tryz.prog 13 #[.int .i64 q, .int .i64 v] w fun e w' => e = .returned (.tuple #[.int .i64 (sndV q v), .int .i64 0]) ∧ Below w.heap.size w w' := by
  have h := soundrange_any q v w hS
  have e : sndOk q v = true := by
    unfold sndOk fogPow
    rw [inb_in hq, inb_in hv]; rfl
  rw [e] at h
  exact h
theorem rows_len {w : World} {B : Nat} {v : Value} {n : Nat} {f : Nat → Int × Int} (h : RowsV w B v n f) : ∃ a cap, v = .slice a n cap := by
  rcases h with ⟨rfl, rfl⟩ | ⟨_, g, cap, _, rfl, _⟩
  · exact ⟨_, _, rfl⟩
  · exact ⟨_, _, rfl⟩
set_option maxRecDepth 100000 in
set_option maxHeartbeats 16000000 in
theorem fog_small (sv0 sv1 : Value) (z0 z1 : List Int) (ea ep eq : Addr) (w : World) (h0 : ArgIn .u8 w sv0 z0) (h1 : ArgIn .u8 w sv1 z1) (b0 : BytesAre z0) (b1 : BytesAre z1) (l0 : z0.length ≤ 1048576) (l1 : z1.length ≤ 1048576)
    (HL0 : Hid (∀ w, Calls Tryz.prog 4 #[sv0] w fun e w' => e = .returned (.bool false) ∧ w = w')) (HL1 : Hid (∀ w, Calls Tryz.prog 4 #[sv1] w fun e w' => e = .returned (.bool false) ∧ w = w'))
    (hB : RdBase ea ep eq w) (hS : SndsAt w) :
    Calls Tryz.prog 3 #[sv0, sv1] w fun e w' => e = .returned (.bool true) ∧ Below w.heap.size w w' := by
  have HDN := Lib.hid (fun w' (hb : Below w.heap.size w w') => drawnext_any w' sv0 z0 (h0.below hb) b0 l0)
  have HDP := Lib.hid (fun w' (hb : Below w.heap.size w w') => drawpow_any w' sv1 z1 (h1.below hb) b1 l1)
  have HNX := Lib.hid (fun k b p q t w' (hb : Below w.heap.size w w') => (show Calls Tryz.prog 6 #[.agg #[.int .i64 k, .int .i64 b, .int .i64 p, .int .i64 q], .int .i64 t] w' fun e w'' => e = .returned (.tuple #[.int .i64 (nextA k b p q t), .int .i64 (askC k b p q t)]) ∧ Below w'.heap.size w' w'' from nextblast_any k b p q t ea ep eq w' (hB.below hb).1 (hB.below hb).2.1))
  have HSA := Lib.hid (fun k b p q t w' (hb : Below w.heap.size w w') => (show Calls Tryz.prog 7 #[.agg #[.int .i64 k, .int .i64 b, .int .i64 p, .int .i64 q], .int .i64 t] w' fun e w'' => e = .returned (.tuple #[.bool (soundA k b p q t), .int .i64 (askC k b p q t)]) ∧ Below w'.heap.size w' w'' from soundat_any k b p q t ea ep eq w' (hB.below hb).1 (hB.below hb).2.1))
  have HBL := Lib.hid (fun k b p q w' (hb : Below w.heap.size w w') => (show Calls Tryz.prog 8 #[.agg #[.int .i64 k, .int .i64 b, .int .i64 p, .int .i64 q]] w' fun e w'' => ∃ a cap, e = .returned (.tuple #[.slice a (rowsN k b p q) cap, .int .i64 (rowsC k b p q)]) ∧ Below w'.heap.size w' w'' from (blastsof_any k b p q ea ep eq w' (hB.below hb).1 (hB.below hb).2.1).mono (by
    rintro e w'' ⟨v, rfl, hr, hb2⟩
    obtain ⟨a, cap, rfl⟩ := rows_len hr
    exact ⟨a, cap, rfl, hb2⟩)))
  have HTX := Lib.hid (fun k b p q w' (hb : Below w.heap.size w w') => (show Calls Tryz.prog 10 #[.agg #[.int .i64 k, .int .i64 b, .int .i64 p, .int .i64 q]] w' fun e w'' => e = .returned (.string (fogText k b p q)) ∧ Below w'.heap.size w' w'' from fogtext_any k b p q ea ep eq w' (hB.below hb).1 (hB.below hb).2.1 (hB.below hb).2.2.1))
  have HRD := Lib.hid (fun k b p q w' (hb : Below w.heap.size w w') (ho : fogOk k b p q = true) => (show Calls Tryz.prog 9 #[.string (fogText k b p q)] w' fun e w'' => e = .returned (.tuple #[.agg #[.int .i64 k, .int .i64 b, .int .i64 p, .int .i64 q], .bool true]) ∧ Below w'.heap.size w' w'' from by
    have h := readfog_any (fogText k b p q) ea ep eq w' (fogText_size k b p q) (hB.below hb)
    rw [text_back ho] at h
    exact h))
  have HPW := Lib.hid (fun d v a c w' (hb : Below w.heap.size w w') (h : PowIs d v a c) => (show Calls Tryz.prog 12 #[.int .i64 d, .int .i64 v] w' fun e w'' => e = .returned (.tuple #[.int .i64 a, .int .i64 c]) ∧ Below w'.heap.size w' w'' from powerfor_any d v a c w' (hS.below hb) h))
  have HSR := Lib.hid (fun q v w' (hb : Below w.heap.size w w') hq hv => snd_in q v w' (hS.below hb) hq hv)
  have HBB := Lib.hid (Below.refl w.heap.size w)
  clear h0 h1 b0 b1 l0 l1 hB hS
  go_enter Tryz.func3, Tryz.ntmps3
  go_wp2_with (go_at_call 4; (first | ((with_reducible refine (HL0.out _).mono ?_); rintro e w' ⟨rfl, rfl⟩; refine Hid.out ?_) | ((with_reducible refine (HL1.out _).mono ?_); rintro e w' ⟨rfl, rfl⟩; refine Hid.out ?_)))
  refine Lib.hid ?_
  go_wp2_with (go_at_call 4; (first | ((with_reducible refine (HL0.out _).mono ?_); rintro e w' ⟨rfl, rfl⟩; refine Hid.out ?_) | ((with_reducible refine (HL1.out _).mono ?_); rintro e w' ⟨rfl, rfl⟩; refine Hid.out ?_)))
  refine Lib.hid ?_
  clear HL0 HL1
  go_wp2_with (go_at_call 5; (refine (HDN.out _ HBB.out).mono ?_); rintro e w1 ⟨k, b, p, q, t, rfl, hb⟩; refine Hid.out ?_)
  refine Lib.hid ?_
  replace HBB := Lib.hid ((Below.next HBB.out hb).alloc (Below.next HBB.out hb).size (.cells #[.int .i64 k, .int .i64 b, .int .i64 p, .int .i64 q] 25))
  clear hb HDN
  have hnf := @next_facts k b p q t
  have hay := @ask_yes k b p q t
  have hrm := @rows_many k b p q
  have hop := @ok_parts k b p q
  have HN1 := Lib.hid (fun w' hb => HNX.out k b p q t w' hb)
  have HB1 := Lib.hid (fun w' hb => HBL.out k b p q w' hb)
  have HT1 := Lib.hid (fun w' hb => HTX.out k b p q w' hb)
  have HR1 := Lib.hid (fun w' hb h => HRD.out k b p q w' hb h)
  have hne := neq_fog k b p q
  obtain ⟨n, hn⟩ : ∃ n, n = nextA k b p q t := ⟨_, rfl⟩
  rw [← hn] at HN1 hnf
  have HS1 := Lib.hid (fun w' hb => HSA.out k b p q n w' hb)
  clear hn HNX HSA HBL HTX HRD
  generalize askC k b p q n = ca at *
  generalize soundA k b p q n = sa at *
  generalize rowsC k b p q = rc at *
  generalize rowsN k b p q = rn at *
  generalize fogText k b p q = tx at *
  obtain ⟨c, hc⟩ : ∃ c, c = askC k b p q t := ⟨_, rfl⟩
  rw [← hc] at hnf hay HN1
  clear hc
  generalize fogOk k b p q = ok at *
  go_wp2_with (go_at_call 6; (refine (HN1.out _ HBB.out).mono ?_); rintro e w2 ⟨rfl, hb⟩; refine Hid.out ?_)
  refine Lib.hid ?_
  have x0 : w2.cell? ⟨w1.heap.size, 0, none⟩ = some (.int .i64 k) := cell_below (by simp) hb
  have x1 : w2.cell? ⟨w1.heap.size, 1, none⟩ = some (.int .i64 b) := cell_below (by simp) hb
  have x2 : w2.cell? ⟨w1.heap.size, 2, none⟩ = some (.int .i64 p) := cell_below (by simp) hb
  have x3 : w2.cell? ⟨w1.heap.size, 3, none⟩ = some (.int .i64 q) := cell_below (by simp) hb
  replace HBB := Lib.hid (Below.next HBB.out hb)
  have hz2 : w1.heap.size < w2.heap.size := by have hh := hb.size; first | omega | (simp at hh; omega)
  clear hb HN1
  by_cases hc : c = 0
  · subst hc
    obtain ⟨n0, n1, n2⟩ := hnf rfl
    obtain ⟨ho, t0, t1⟩ := hay rfl
    obtain ⟨rfl, hrn⟩ := hrm ho
    obtain ⟨_, ⟨p0, p1⟩, _⟩ := hop ho
    have HR1 := Lib.hid (fun w' hb => HR1.out w' hb ho)
    clear hnf hay hrm hop ho
    have hw : IntKind.i64.wrap (t + p) = t + p := IntWalk.i64_in _ ⟨by omega, by omega⟩
    have hrb : ((rn : Int) == b) = true := by rw [beq_iff_eq]; exact hrn
    have hrc : ((rn : Int) != b) = false := by rw [bne, hrb]; rfl
    clear hrn
    go_wp2_with (go_at_call 7; (refine (HS1.out _ HBB.out).mono ?_); rintro e w3 ⟨rfl, hb⟩; refine Hid.out ?_)
    refine Lib.hid ?_
    replace hz2 := Nat.lt_of_lt_of_le hz2 hb.size
    replace x0 := cell_below x0 hb
    replace x1 := cell_below x1 hb
    replace x2 := cell_below x2 hb
    replace x3 := cell_below x3 hb
    replace HBB := Lib.hid (Below.next HBB.out hb)
    clear hb
    go_wp2_with (go_at_call 8; (refine (HB1.out _ HBB.out).mono ?_); rintro e w4 ⟨av, cap, rfl, hb⟩; refine Hid.out ?_)
    refine Lib.hid ?_
    replace hz2 := Nat.lt_of_lt_of_le hz2 hb.size
    replace x0 := cell_below x0 hb
    replace x1 := cell_below x1 hb
    replace x2 := cell_below x2 hb
    replace x3 := cell_below x3 hb
    replace HBB := Lib.hid (Below.next HBB.out hb)
    clear hb
    go_wp2_with (go_at_call 10; (refine (HT1.out _ HBB.out).mono ?_); rintro e w5 ⟨rfl, hb⟩; refine Hid.out ?_)
    refine Lib.hid ?_
    replace hz2 := Nat.lt_of_lt_of_le hz2 hb.size
    replace x0 := cell_below x0 hb
    replace x1 := cell_below x1 hb
    replace x2 := cell_below x2 hb
    replace x3 := cell_below x3 hb
    replace HBB := Lib.hid (Below.next HBB.out hb)
    clear hb
    go_wp2_with (go_at_call 9; (refine (HR1.out _ HBB.out).mono ?_); rintro e w6 ⟨rfl, hb⟩; refine Hid.out ?_)
    refine Lib.hid ?_
    replace hz2 := Nat.lt_of_lt_of_le hz2 hb.size
    replace x0 := cell_below x0 hb
    replace x1 := cell_below x1 hb
    replace x2 := cell_below x2 hb
    replace x3 := cell_below x3 hb
    replace HBB := Lib.hid (Below.next HBB.out hb)
    clear hb
    replace HBB := Lib.hid (HBB.out.alloc HBB.out.size (.cells #[.int .i64 k, .int .i64 b, .int .i64 p, .int .i64 q] 25))
    clear HS1 HB1 HT1 HR1
    by_cases hbig : n ≤ 1000000000000
    · obtain ⟨rfl, rfl⟩ := n2 hbig
      go_wp2_with (go_at_call 11; (refine (HDP.out _ HBB.out).mono ?_); rintro e w1 ⟨d, v, rfl, hb⟩; refine Hid.out ?_)
      refine Lib.hid ?_
      replace HBB := Lib.hid (Below.next HBB.out hb)
      clear hb
      obtain ⟨a, cc, hP⟩ := powIs_ex d v
      have HPA := Lib.hid (fun w' hb => HPW.out d v a cc w' hb hP)
      have hpf := pow_facts hP
      clear hP
      go_wp2_with (go_at_call 12; (refine (HPA.out _ HBB.out).mono ?_); rintro e w1 ⟨rfl, hb⟩; refine Hid.out ?_)
      refine Lib.hid ?_
      replace HBB := Lib.hid (Below.next HBB.out hb)
      clear hb
      rcases hpf with ⟨g1, rfl⟩ | ⟨rfl, ⟨a0, a1⟩, ⟨v0, v1⟩, g2, g3, g4⟩
      · have g1b : (cc == 0) = false := beq_eq_false_iff_ne.2 g1
        have g1c : (cc != 0) = true := by rw [bne, g1b]; rfl
        clear g1
        go_wp2
        go_ret
        exact ⟨rfl, HBB.out⟩
      · have HR0 := Lib.hid (fun w' hb => HSR.out a v w' hb ⟨a0, a1⟩ ⟨v0, v1⟩)
        have HR1 := Lib.hid (fun (h : 60 < a) w' hb => HSR.out (a - 1) v w' hb ⟨by omega, by omega⟩ ⟨v0, v1⟩)
        have HR2 := Lib.hid (fun (h : v < 3) w' hb => HSR.out a (v + 1) w' hb ⟨a0, a1⟩ ⟨by omega, by omega⟩)
        generalize sndV a v = x0 at *
        generalize sndV (a - 1) v = x1 at *
        generalize sndV a (v + 1) = x2 at *
        go_wp2_with (go_at_call 13; (refine (HR0.out _ HBB.out).mono ?_); rintro e w1 ⟨rfl, hb⟩; refine Hid.out ?_)
        refine Lib.hid ?_
        replace HBB := Lib.hid (Below.next HBB.out hb)
        clear hb
        by_cases h60 : 60 < a
        · have g3' := g3 h60
          replace HR1 := Lib.hid (HR1.out h60)
          clear g3
          go_wp2_with (go_at_call 13; (refine (HR1.out _ HBB.out).mono ?_); rintro e w1 ⟨rfl, hb⟩; refine Hid.out ?_)
          refine Lib.hid ?_
          replace HBB := Lib.hid (Below.next HBB.out hb)
          clear hb
          by_cases h3 : v < 3
          · have g4' := g4 h3
            replace HR2 := Lib.hid (HR2.out h3)
            clear g4
            go_wp2_with (go_at_call 13; (refine (HR2.out _ HBB.out).mono ?_); rintro e w1 ⟨rfl, hb⟩; refine Hid.out ?_)
            refine Lib.hid ?_
            replace HBB := Lib.hid (Below.next HBB.out hb)
            clear hb
            go_wp2
            go_ret
            exact ⟨rfl, HBB.out⟩
          · clear g4 HR2
            go_wp2
            go_ret
            exact ⟨rfl, HBB.out⟩
        · clear g3 HR1
          by_cases h3 : v < 3
          · have g4' := g4 h3
            replace HR2 := Lib.hid (HR2.out h3)
            clear g4
            go_wp2_with (go_at_call 13; (refine (HR2.out _ HBB.out).mono ?_); rintro e w1 ⟨rfl, hb⟩; refine Hid.out ?_)
            refine Lib.hid ?_
            replace HBB := Lib.hid (Below.next HBB.out hb)
            clear hb
            go_wp2
            go_ret
            exact ⟨rfl, HBB.out⟩
          · clear g4 HR2
            go_wp2
            go_ret
            exact ⟨rfl, HBB.out⟩
    · clear n2
      go_wp2_with (go_at_call 11; (refine (HDP.out _ HBB.out).mono ?_); rintro e w1 ⟨d, v, rfl, hb⟩; refine Hid.out ?_)
      refine Lib.hid ?_
      replace HBB := Lib.hid (Below.next HBB.out hb)
      clear hb
      obtain ⟨a, cc, hP⟩ := powIs_ex d v
      have HPA := Lib.hid (fun w' hb => HPW.out d v a cc w' hb hP)
      have hpf := pow_facts hP
      clear hP
      go_wp2_with (go_at_call 12; (refine (HPA.out _ HBB.out).mono ?_); rintro e w1 ⟨rfl, hb⟩; refine Hid.out ?_)
      refine Lib.hid ?_
      replace HBB := Lib.hid (Below.next HBB.out hb)
      clear hb
      rcases hpf with ⟨g1, rfl⟩ | ⟨rfl, ⟨a0, a1⟩, ⟨v0, v1⟩, g2, g3, g4⟩
      · have g1b : (cc == 0) = false := beq_eq_false_iff_ne.2 g1
        have g1c : (cc != 0) = true := by rw [bne, g1b]; rfl
        clear g1
        go_wp2
        go_ret
        exact ⟨rfl, HBB.out⟩
      · have HR0 := Lib.hid (fun w' hb => HSR.out a v w' hb ⟨a0, a1⟩ ⟨v0, v1⟩)
        have HR1 := Lib.hid (fun (h : 60 < a) w' hb => HSR.out (a - 1) v w' hb ⟨by omega, by omega⟩ ⟨v0, v1⟩)
        have HR2 := Lib.hid (fun (h : v < 3) w' hb => HSR.out a (v + 1) w' hb ⟨a0, a1⟩ ⟨by omega, by omega⟩)
        generalize sndV a v = x0 at *
        generalize sndV (a - 1) v = x1 at *
        generalize sndV a (v + 1) = x2 at *
        go_wp2_with (go_at_call 13; (refine (HR0.out _ HBB.out).mono ?_); rintro e w1 ⟨rfl, hb⟩; refine Hid.out ?_)
        refine Lib.hid ?_
        replace HBB := Lib.hid (Below.next HBB.out hb)
        clear hb
        by_cases h60 : 60 < a
        · have g3' := g3 h60
          replace HR1 := Lib.hid (HR1.out h60)
          clear g3
          go_wp2_with (go_at_call 13; (refine (HR1.out _ HBB.out).mono ?_); rintro e w1 ⟨rfl, hb⟩; refine Hid.out ?_)
          refine Lib.hid ?_
          replace HBB := Lib.hid (Below.next HBB.out hb)
          clear hb
          by_cases h3 : v < 3
          · have g4' := g4 h3
            replace HR2 := Lib.hid (HR2.out h3)
            clear g4
            go_wp2_with (go_at_call 13; (refine (HR2.out _ HBB.out).mono ?_); rintro e w1 ⟨rfl, hb⟩; refine Hid.out ?_)
            refine Lib.hid ?_
            replace HBB := Lib.hid (Below.next HBB.out hb)
            clear hb
            go_wp2
            go_ret
            exact ⟨rfl, HBB.out⟩
          · clear g4 HR2
            go_wp2
            go_ret
            exact ⟨rfl, HBB.out⟩
        · clear g3 HR1
          by_cases h3 : v < 3
          · have g4' := g4 h3
            replace HR2 := Lib.hid (HR2.out h3)
            clear g4
            go_wp2_with (go_at_call 13; (refine (HR2.out _ HBB.out).mono ?_); rintro e w1 ⟨rfl, hb⟩; refine Hid.out ?_)
            refine Lib.hid ?_
            replace HBB := Lib.hid (Below.next HBB.out hb)
            clear hb
            go_wp2
            go_ret
            exact ⟨rfl, HBB.out⟩
          · clear g4 HR2
            go_wp2
            go_ret
            exact ⟨rfl, HBB.out⟩
  · have hcb : (c == 0) = false := beq_eq_false_iff_ne.2 hc
    clear hnf hay hrm hop hc HS1 HB1 HT1 HR1
    go_wp2_with (go_at_call 11; (refine (HDP.out _ HBB.out).mono ?_); rintro e w1 ⟨d, v, rfl, hb⟩; refine Hid.out ?_)
    refine Lib.hid ?_
    replace HBB := Lib.hid (Below.next HBB.out hb)
    clear hb
    obtain ⟨a, cc, hP⟩ := powIs_ex d v
    have HPA := Lib.hid (fun w' hb => HPW.out d v a cc w' hb hP)
    have hpf := pow_facts hP
    clear hP
    go_wp2_with (go_at_call 12; (refine (HPA.out _ HBB.out).mono ?_); rintro e w1 ⟨rfl, hb⟩; refine Hid.out ?_)
    refine Lib.hid ?_
    replace HBB := Lib.hid (Below.next HBB.out hb)
    clear hb
    rcases hpf with ⟨g1, rfl⟩ | ⟨rfl, ⟨a0, a1⟩, ⟨v0, v1⟩, g2, g3, g4⟩
    · have g1b : (cc == 0) = false := beq_eq_false_iff_ne.2 g1
      have g1c : (cc != 0) = true := by rw [bne, g1b]; rfl
      clear g1
      go_wp2
      go_ret
      exact ⟨rfl, HBB.out⟩
    · have HR0 := Lib.hid (fun w' hb => HSR.out a v w' hb ⟨a0, a1⟩ ⟨v0, v1⟩)
      have HR1 := Lib.hid (fun (h : 60 < a) w' hb => HSR.out (a - 1) v w' hb ⟨by omega, by omega⟩ ⟨v0, v1⟩)
      have HR2 := Lib.hid (fun (h : v < 3) w' hb => HSR.out a (v + 1) w' hb ⟨a0, a1⟩ ⟨by omega, by omega⟩)
      generalize sndV a v = x0 at *
      generalize sndV (a - 1) v = x1 at *
      generalize sndV a (v + 1) = x2 at *
      go_wp2_with (go_at_call 13; (refine (HR0.out _ HBB.out).mono ?_); rintro e w1 ⟨rfl, hb⟩; refine Hid.out ?_)
      refine Lib.hid ?_
      replace HBB := Lib.hid (Below.next HBB.out hb)
      clear hb
      by_cases h60 : 60 < a
      · have g3' := g3 h60
        replace HR1 := Lib.hid (HR1.out h60)
        clear g3
        go_wp2_with (go_at_call 13; (refine (HR1.out _ HBB.out).mono ?_); rintro e w1 ⟨rfl, hb⟩; refine Hid.out ?_)
        refine Lib.hid ?_
        replace HBB := Lib.hid (Below.next HBB.out hb)
        clear hb
        by_cases h3 : v < 3
        · have g4' := g4 h3
          replace HR2 := Lib.hid (HR2.out h3)
          clear g4
          go_wp2_with (go_at_call 13; (refine (HR2.out _ HBB.out).mono ?_); rintro e w1 ⟨rfl, hb⟩; refine Hid.out ?_)
          refine Lib.hid ?_
          replace HBB := Lib.hid (Below.next HBB.out hb)
          clear hb
          go_wp2
          go_ret
          exact ⟨rfl, HBB.out⟩
        · clear g4 HR2
          go_wp2
          go_ret
          exact ⟨rfl, HBB.out⟩
      · clear g3 HR1
        by_cases h3 : v < 3
        · have g4' := g4 h3
          replace HR2 := Lib.hid (HR2.out h3)
          clear g4
          go_wp2_with (go_at_call 13; (refine (HR2.out _ HBB.out).mono ?_); rintro e w1 ⟨rfl, hb⟩; refine Hid.out ?_)
          refine Lib.hid ?_
          replace HBB := Lib.hid (Below.next HBB.out hb)
          clear hb
          go_wp2
          go_ret
          exact ⟨rfl, HBB.out⟩
        · clear g4 HR2
          go_wp2
          go_ret
          exact ⟨rfl, HBB.out⟩
end Go.Proofs.YthheacebafleeacGreatDoor
