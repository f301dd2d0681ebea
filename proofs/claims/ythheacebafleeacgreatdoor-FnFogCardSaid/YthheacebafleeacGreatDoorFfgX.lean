/- Drawn fog signals, times, distances and winds: some numbers. Drawn fog signals: valid ones. Drawn fog signals: valid ones, mostly; with a time. -/
import Derived.Test.YthheacebafleeacGreatDoorDrwX
import Derived.Test.YthheacebafleeacGreatDoorFogS
namespace Go.Proofs.YthheacebafleeacGreatDoor
open Go.ChangeShapes Go.WideShapes Go.ChangeAt Go.RowKit Pm

theorem flit_at (W : World) (xs : List Int) (T : TypeId) (B : Nat) (h : W.heap.size = B) : ∀ i, i < xs.length → (W.alloc (.cells (xs.map (Value.int .i64)).toArray T)).cell? ⟨B, i, none⟩ = some (.int .i64 (xs.getD i 0)) := by
  subst h
  intro i hi
  have h := (MapKept.heap_alloc W (.cells (xs.map (Value.int .i64)).toArray T)).1
  simp only [World.cell?, h]
  simp [hi]
def NumAny (v : Value) : Prop := ∃ x : Int, v = .int .i64 x
theorem dwind_draw (w0 w : World) (bs : Nat) (sv : Value) (zs : List Int) (k : Nat) (hk : k ≤ 900000) (h : Src w0 bs sv zs k w) :
    Calls Tryz.prog 35 #[.pointer (some ⟨bs, 0, none⟩)] w (Drawn NumAny w0 bs sv zs (k + 2) w) := by
  have HS := Lib.hid h
  clear h
  go_enter Tryz.func35, Tryz.ntmps35
  go_wp2_with (go_at_call 32; refine (pick_draw w0 _ bs sv zs _ 9 (by omega) (by omega) (by omega) HS.out).mono ?_; rintro e w2 ⟨_, ⟨a, a0, a1, rfl⟩, rfl, hS2, ho2⟩; refine Hid.out ?_)
  refine Lib.hid ?_
  have S2 := Lib.hid hS2
  have O2 := Lib.hid ho2
  clear hS2 ho2
  go_wp2_with (fail)
  go_ret
  exact ⟨_, ⟨_, rfl⟩, rfl, S2.out, O2.out⟩
set_option maxRecDepth 100000 in
theorem dtime_draw (w0 w : World) (bs : Nat) (sv : Value) (zs : List Int) (k : Nat) (hk : k ≤ 800000) (h : Src w0 bs sv zs k w) :
    Calls Tryz.prog 16 #[.pointer (some ⟨bs, 0, none⟩)] w (Drawn NumAny w0 bs sv zs (k + 4) w) := by
  have hlt := h.lt
  have hw0 := h.bel.size
  have HS := Lib.hid h
  clear h
  go_enter Tryz.func16, Tryz.ntmps16
  go_wp2_with (go_at_call 33; refine (one_draw w0 _ bs sv zs _ 8 (by omega) (by omega) (by omega) HS.out).mono ?_; rintro e w1 ⟨_, ⟨u, rfl⟩, rfl, hS1, ho1⟩; refine Hid.out ?_)
  refine Lib.hid ?_
  have S1 := Lib.hid hS1
  have O1 := Lib.hid ho1
  have B1 : bs < w1.heap.size := hS1.lt
  clear hS1 ho1
  cases u
  · go_wp2_with (go_at_call 32; refine (pick_draw w0 _ bs sv zs _ 3000 (by omega) (by omega) (by omega) S1.out).mono ?_; rintro e w2 ⟨_, ⟨a, a0, a1, rfl⟩, rfl, hS2, ho2⟩; refine Hid.out ?_)
    refine Lib.hid ?_
    have S2 := Lib.hid hS2
    have O2 := Lib.hid (O1.out.trans ho2)
    clear hS2 ho2
    go_wp2_with (fail)
    go_ret
    exact ⟨_, ⟨_, rfl⟩, rfl, S2.out, O2.out⟩
  · go_wp2_with (go_at_call 34; refine (among_draw w0 _ bs sv zs _ _ _ [-1, 0, 1000000000000, 1000000000001] (by omega) (by simp) (by simp) (by omega) (flit_at _ _ _ _ (by simp)) (S1.out.alloc _)).mono ?_; rintro e w2 ⟨_, ⟨m, hm, rfl⟩, rfl, hS2, ho2⟩; refine Hid.out ?_)
    refine Lib.hid ?_
    have S2 := Lib.hid hS2
    have O2 := Lib.hid ((O1.out.alloc _).trans ho2)
    clear hS2 ho2 hm
    go_wp2_with (fail)
    go_ret
    exact ⟨_, ⟨_, rfl⟩, rfl, S2.out, O2.out⟩
set_option maxRecDepth 100000 in
theorem drawpow_any (w : World) (sv : Value) (zs : List Int) (hA : ArgIn .u8 w sv zs) (hz : BytesAre zs) (hl : zs.length ≤ 1048576) :
    Calls Tryz.prog 11 #[sv] w fun e w' => ∃ d v : Int, e = .returned (.tuple #[.int .i64 d, .int .i64 v]) ∧ Below w.heap.size w w' := by
  have HN := Lib.hid (from_new w sv zs hA hz hl)
  clear hA hz hl
  go_enter Tryz.func11, Tryz.ntmps11
  go_wp2_with (go_at_call 14; refine HN.out.mono ?_; rintro e w1 ⟨rfl, hS, hb⟩; refine Hid.out ?_)
  refine Lib.hid ?_
  have HS := Lib.hid hS
  clear hS hb
  go_wp2_with (go_at_call 32; refine (pick_draw w _ _ sv zs 0 9000 (by decide) (by decide) (by decide) HS.out).mono ?_; rintro e w2 ⟨_, ⟨x, x0, x1, rfl⟩, rfl, hS2, ho2⟩; refine Hid.out ?_)
  refine Lib.hid ?_
  replace HS := Lib.hid hS2
  clear hS2 ho2
  go_wp2_with (go_at_call 33; refine (one_draw w _ _ sv zs _ 6 (by decide) (by omega) (by omega) HS.out).mono ?_; rintro e w3 ⟨_, ⟨u, rfl⟩, rfl, hS2, ho2⟩; refine Hid.out ?_)
  refine Lib.hid ?_
  replace HS := Lib.hid hS2
  have B1 := hS2.lt
  clear hS2 ho2
  cases u
  · go_wp2_with (go_at_call 35; refine (dwind_draw w _ _ sv zs _ (by decide) HS.out).mono ?_; rintro e w4 ⟨_, ⟨a, rfl⟩, rfl, hS2, ho2⟩; refine Hid.out ?_)
    refine Lib.hid ?_
    have HB := Lib.hid hS2.bel
    clear hS2 ho2
    go_wp2_with (fail)
    go_ret2
    exact ⟨_, _, rfl, HB.out⟩
  · go_wp2_with (go_at_call 34; refine (among_draw w _ _ sv zs _ _ _ [-1, 0, 50, 51, 14000, 14001, 300000, 300001] (by decide) (by simp) (by simp) (by omega) (flit_at _ _ _ _ (by simp)) (HS.out.alloc _)).mono ?_; rintro e w4 ⟨_, ⟨m, hm, rfl⟩, rfl, hS2, ho2⟩; refine Hid.out ?_)
    refine Lib.hid ?_
    replace HS := Lib.hid hS2
    clear hS2 ho2 hm
    go_wp2_with (go_at_call 35; refine (dwind_draw w _ _ sv zs _ (by decide) HS.out).mono ?_; rintro e w5 ⟨_, ⟨a, rfl⟩, rfl, hS2, ho2⟩; refine Hid.out ?_)
    refine Lib.hid ?_
    have HB := Lib.hid hS2.bel
    clear hS2 ho2
    go_wp2_with (fail)
    go_ret2
    exact ⟨_, _, rfl, HB.out⟩
end Go.Proofs.YthheacebafleeacGreatDoor
namespace Go.Proofs.YthheacebafleeacGreatDoor
open Go.ChangeShapes Go.WideShapes Go.ChangeAt Go.RowKit Pm

/-- A variable of four cells that may be written. -/
structure Var4 (b : Nat) (x y z u : Value) (w : World) : Prop where
  c0 : w.cell? ⟨b, 0, none⟩ = some x
  c1 : w.cell? ⟨b, 1, none⟩ = some y
  c2 : w.cell? ⟨b, 2, none⟩ = some z
  c3 : w.cell? ⟨b, 3, none⟩ = some u
  z0 : w.frozen? ⟨b, 0, none⟩ = false
  z1 : w.frozen? ⟨b, 1, none⟩ = false
  z2 : w.frozen? ⟨b, 2, none⟩ = false
  z3 : w.frozen? ⟨b, 3, none⟩ = false
theorem Var4.lt {b : Nat} {x y z u : Value} {w : World} (v : Var4 b x y z u w) : b < w.heap.size := cell_lt v.c0
theorem Var4.below {b : Nat} {x y z u : Value} {w w' : World} (v : Var4 b x y z u w) (hb : Below w.heap.size w w') : Var4 b x y z u w' :=
  ⟨cell_below v.c0 hb, cell_below v.c1 hb, cell_below v.c2 hb, cell_below v.c3 hb, frozen_bel v.z0 v.lt hb, frozen_bel v.z1 v.lt hb, frozen_bel v.z2 v.lt hb, frozen_bel v.z3 v.lt hb⟩
theorem Var4.alloc {b : Nat} {x y z u : Value} {w : World} (v : Var4 b x y z u w) (o : Obj) : Var4 b x y z u (w.alloc o) := v.below ((Below.refl _ _).alloc (Nat.le_refl _) _)
theorem Var4.only {b bs : Nat} {x y z u : Value} {w w' : World} (v : Var4 b x y z u w) (n : b ≠ bs) (t : Only bs w w') : Var4 b x y z u w' :=
  ⟨cell_only v.c0 n t, cell_only v.c1 n t, cell_only v.c2 n t, cell_only v.c3 n t, frozen_only v.z0 v.lt n t, frozen_only v.z1 v.lt n t, frozen_only v.z2 v.lt n t, frozen_only v.z3 v.lt n t⟩
theorem Var4.new (w : World) (x y z u : Value) (T : TypeId) : Var4 w.heap.size x y z u (w.alloc (.cells #[x, y, z, u] T)) := by
  refine ⟨by simp, by simp, by simp, by simp, ?_, ?_, ?_, ?_⟩ <;> go_simp
theorem Var4.put {b g j : Nat} {x y z u : Value} {w : World} (v : Var4 b x y z u w) (n : b ≠ g) (m : Value) : Var4 b x y z u (w.setCell ⟨g, j, none⟩ m) :=
  ⟨cell_apart n v.c0, cell_apart n v.c1, cell_apart n v.c2, cell_apart n v.c3, by rw [World.frozen?_setCell]; exact v.z0, by rw [World.frozen?_setCell]; exact v.z1, by rw [World.frozen?_setCell]; exact v.z2, by rw [World.frozen?_setCell]; exact v.z3⟩
theorem Var4.set {b : Nat} {x y z u : Value} {w : World} (v : Var4 b x y z u w) (m : Value) :
    Var4 b m y z u (w.setCell ⟨b, 0, none⟩ m) ∧ Var4 b x m z u (w.setCell ⟨b, 1, none⟩ m) ∧ Var4 b x y m u (w.setCell ⟨b, 2, none⟩ m) ∧ Var4 b x y z m (w.setCell ⟨b, 3, none⟩ m) := by
  obtain ⟨c0, c1, c2, c3, z0, z1, z2, z3⟩ := v
  refine ⟨⟨?_, ?_, ?_, ?_, ?_, ?_, ?_, ?_⟩, ⟨?_, ?_, ?_, ?_, ?_, ?_, ?_, ?_⟩, ⟨?_, ?_, ?_, ?_, ?_, ?_, ?_, ?_⟩, ⟨?_, ?_, ?_, ?_, ?_, ?_, ?_, ?_⟩⟩ <;> first | (rw [World.frozen?_setCell]; assumption) | go_cell

def FogAny (v : Value) : Prop := ∃ k b p q : Int, v = .agg #[.int .i64 k, .int .i64 b, .int .i64 p, .int .i64 q]
def FogP (v : Value) : Prop := ∃ k b p q : Int, -9223372036854775807 ≤ p ∧ p ≤ 1000000 ∧ v = .agg #[.int .i64 k, .int .i64 b, .int .i64 p, .int .i64 q]
theorem fretI {a b : Int} (h : a = b) : Ending.returned (.int .i64 a) = .returned (.int .i64 b) := by rw [h]
theorem dmin_any (a b : Int) (w : World) :
    Calls Tryz.prog 58 #[.int .i64 a, .int .i64 b] w fun e w' => e = .returned (.int .i64 (min a b)) ∧ w = w' := by
  by_cases h : a < b
  · have HV := Lib.hid (show a = min a b by omega)
    go_enter Tryz.func58, Tryz.ntmps58
    go_wp2
    go_ret
    exact ⟨fretI HV.out, rfl⟩
  · have HV := Lib.hid (show b = min a b by omega)
    go_enter Tryz.func58, Tryz.ntmps58
    go_wp2
    go_ret
    exact ⟨fretI HV.out, rfl⟩
set_option maxRecDepth 100000 in
set_option maxHeartbeats 1000000 in
theorem drawok_draw (w0 w : World) (bs : Nat) (sv : Value) (zs : List Int) (k : Nat) (hk : k ≤ 800000) (h : Src w0 bs sv zs k w) :
    Calls Tryz.prog 41 #[.pointer (some ⟨bs, 0, none⟩)] w (Drawn FogP w0 bs sv zs (k + 8) w) := by
  have hlt := h.lt
  have hw0 := h.bel.size
  have HS := Lib.hid h
  clear h
  have HR := Lib.hid (Var4.new w (.int .i64 0) (.int .i64 0) (.int .i64 0) (.int .i64 0) 25)
  go_enter Tryz.func41, Tryz.ntmps41
  go_wp2_with (go_at_call 32; refine (pick_draw w0 _ bs sv zs _ 4 (by omega) (by omega) (by omega) (HS.out.alloc _)).mono ?_; rintro e w1 ⟨_, ⟨x, x0, x1, rfl⟩, rfl, hS, ho⟩; refine Hid.out ?_)
  refine Lib.hid ?_
  replace HS := Lib.hid hS
  replace HR := Lib.hid (HR.out.only (by omega) ho)
  have HO := Lib.hid (Only.trans ((Only.refl bs w).alloc _) ho)
  have hz := HO.out.size
  have hb1 := hS.lt
  have hRV := HR.out.lt
  clear hS ho
  have HV := Lib.hid (Var4.new w1 (.int .i64 (x + 1)) (.int .i64 0) (.int .i64 0) (.int .i64 0) 25)
  go_wp2_with (go_at_call 32; refine (pick_draw w0 _ bs sv zs _ 6 (by omega) (by omega) (by omega) (HS.out.alloc _)).mono ?_; rintro e w2 ⟨_, ⟨y, y0, y1, rfl⟩, rfl, hS, ho⟩; refine Hid.out ?_)
  refine Lib.hid ?_
  replace HS := Lib.hid hS
  replace HR := Lib.hid ((HR.out.alloc _).only (by omega) ho)
  replace HV := Lib.hid (HV.out.only (by omega) ho)
  replace HO := Lib.hid (Only.trans (HO.out.alloc _) ho)
  clear hS ho
  obtain ⟨c0, c1, c2, c3, z0, z1, z2, z3⟩ := HV.out
  go_wp2_with (go_at_call 32; refine (pick_draw w0 _ bs sv zs _ 81 (by omega) (by omega) (by omega) (HS.out.put (by omega) (by omega) _)).mono ?_; rintro e w3 ⟨_, ⟨z, zz0, zz1, rfl⟩, rfl, hS, ho⟩; refine Hid.out ?_)
  refine Lib.hid ?_
  clear c0 c1 c2 c3 z0 z1 z2 z3
  replace HS := Lib.hid hS
  replace HR := Lib.hid ((HR.out.put (by omega) _).only (by omega) ho)
  replace HV := Lib.hid ((HV.out.set _).2.1.only (by omega) ho)
  replace HO := Lib.hid (Only.trans (HO.out.put (.inr (by omega)) _) ho)
  clear hS ho
  have hsh : fogShape (x + 1) (y + 1) = true := by
    unfold fogShape
    rw [inb_in ⟨by omega, by omega⟩, inb_in ⟨by omega, by omega⟩]; rfl
  obtain ⟨lb0, lb1⟩ := least_bd hsh
  have HL := Lib.hid (fun w' c0 c1 => sfogleast_any w1.heap.size (x + 1) (y + 1) w' c0 c1 hsh)
  generalize fogLeast (x + 1) (y + 1) = l at *
  obtain ⟨c0, c1, c2, c3, z0, z1, z2, z3⟩ := HV.out
  go_wp2_with (go_at_call 59; (refine (HL.out _ (by go_cell) (by go_cell)).mono ?_); rintro e w4 ⟨rfl, hb⟩; refine Hid.out ?_)
  refine Lib.hid ?_
  clear c0 c1 c2 c3 z0 z1 z2 z3
  replace HS := Lib.hid ((HS.out.put (by omega) (by omega) _).below hb)
  replace HR := Lib.hid ((HR.out.put (by omega) _).below hb)
  replace HV := Lib.hid ((HV.out.set _).2.2.2.below hb)
  replace HO := Lib.hid (Only.trans (HO.out.put (.inr (by omega)) _) (Only.of_below hb))
  have hb4 := HS.out.lt
  clear hb
  go_wp2_with (go_at_call 34; refine (among_draw w0 _ bs sv zs _ _ _ [0, 5, 100, 300, 1, 700] (by omega) (by simp) (by simp) (by omega) (flit_at _ _ _ _ (by simp)) (HS.out.alloc _)).mono ?_; rintro e w5 ⟨_, ⟨m, hm, rfl⟩, rfl, hS, ho⟩; refine Hid.out ?_)
  refine Lib.hid ?_
  have hm1 : 0 ≤ m ∧ m ≤ 700 := by simp at hm; omega
  replace HS := Lib.hid hS
  replace HR := Lib.hid ((HR.out.alloc _).only (by omega) ho)
  replace HV := Lib.hid ((HV.out.alloc _).only (by omega) ho)
  replace HO := Lib.hid (Only.trans (HO.out.alloc _) ho)
  clear hS ho hm
  obtain ⟨c0, c1, c2, c3, z0, z1, z2, z3⟩ := HV.out
  obtain ⟨r0, r1, r2, r3, s0, s1, s2, s3⟩ := HR.out
  have HM := Lib.hid (fun w' => dmin_any 1200 (l + m) w')
  have hp : -9223372036854775807 ≤ min 1200 (l + m) ∧ min 1200 (l + m) ≤ 1000000 := by omega
  generalize min 1200 (l + m) = p at *
  have hRV1 : w.heap.size ≠ w1.heap.size := by omega
  have hRV2 : w1.heap.size ≠ w.heap.size := by omega
  go_wp2_with (go_at_call 58; (refine (HM.out _).mono ?_); rintro e w6 ⟨rfl, rfl⟩)
  refine bodyPost_ret (v := .agg #[.int .i64 (x + 1), .int .i64 (y + 1), .int .i64 p, .int .i64 (z + 60)]) (by simp [results, Tryz.results41, go_sem, *]) rfl ⟨_, ⟨_, _, _, _, hp.1, hp.2, rfl⟩, rfl, ?_, ?_⟩
  · iterate 4 (refine Src.put ?_ (by omega) (by omega) _)
    exact HS.out.put (by omega) (by omega) _
  · iterate 4 (refine Only.put ?_ (.inr (by exact Nat.le_refl _)) _)
    exact HO.out.put (.inr (by omega)) _
end Go.Proofs.YthheacebafleeacGreatDoor
namespace Go.Proofs.YthheacebafleeacGreatDoor
open Go.ChangeShapes Go.WideShapes Go.ChangeAt Go.RowKit Pm

set_option maxRecDepth 100000 in
set_option maxHeartbeats 2000000 in
theorem fogdraw_draw (w0 w : World) (bs : Nat) (sv : Value) (zs : List Int) (h : Src w0 bs sv zs 0 w) :
    Calls Tryz.prog 15 #[.pointer (some ⟨bs, 0, none⟩)] w (Drawn FogAny w0 bs sv zs 12 w) := by
  have hlt := h.lt
  have hw0 := h.bel.size
  have HS := Lib.hid h
  clear h
  have HR := Lib.hid (Var4.new w (.int .i64 0) (.int .i64 0) (.int .i64 0) (.int .i64 0) 25)
  go_enter Tryz.func15, Tryz.ntmps15
  go_wp2_with (go_at_call 41; refine (drawok_draw w0 _ bs sv zs 0 (by decide) (HS.out.alloc _)).mono ?_; rintro e w1 ⟨_, ⟨k, b, p, q, p0, p1, rfl⟩, rfl, hS, ho⟩; refine Hid.out ?_)
  refine Lib.hid ?_
  replace HS := Lib.hid hS
  replace HR := Lib.hid (HR.out.only (by omega) ho)
  have HO := Lib.hid (Only.trans ((Only.refl bs w).alloc _) ho)
  have hz := HO.out.size
  have hb1 := hS.lt
  have hRV := HR.out.lt
  clear hS ho
  have HV := Lib.hid (Var4.new w1 (.int .i64 k) (.int .i64 b) (.int .i64 p) (.int .i64 q) 25)
  go_wp2_with (go_at_call 32; refine (pick_draw w0 _ bs sv zs _ 18 (by omega) (by omega) (by omega) (HS.out.alloc _)).mono ?_; rintro e w2 ⟨_, ⟨a, a0, a1, rfl⟩, rfl, hS, ho⟩; refine Hid.out ?_)
  refine Lib.hid ?_
  replace HS := Lib.hid hS
  replace HR := Lib.hid ((HR.out.alloc _).only (by omega) ho)
  replace HV := Lib.hid (HV.out.only (by omega) ho)
  replace HO := Lib.hid (Only.trans (HO.out.alloc _) ho)
  have hb2 := hS.lt
  have hRV1 : w.heap.size ≠ w1.heap.size := by omega
  have hRV2 : w1.heap.size ≠ w.heap.size := by omega
  clear hS ho
  by_cases e0 : a = 0
  · subst e0
    go_wp2_with (go_at_call 34; refine (among_draw w0 _ bs sv zs _ _ _ [0, 5] (by omega) (by simp) (by simp) (by omega) (flit_at _ _ _ _ (by simp)) (HS.out.alloc _)).mono ?_; rintro e w3 ⟨_, ⟨m, hm, rfl⟩, rfl, hS, ho⟩; refine Hid.out ?_)
    refine Lib.hid ?_
    replace HS := Lib.hid hS
    replace HR := Lib.hid ((HR.out.alloc _).only (by omega) ho)
    replace HV := Lib.hid ((HV.out.alloc _).only (by omega) ho)
    replace HO := Lib.hid (Only.trans (HO.out.alloc _) ho)
    clear hS ho hm
    obtain ⟨c0, c1, c2, c3, z0, z1, z2, z3⟩ := HV.out
    obtain ⟨r0, r1, r2, r3, s0, s1, s2, s3⟩ := HR.out
    have hx1 := HR.out.lt
    have hx2 := HV.out.lt
    go_wp2_with (fail)
    refine bodyPost_ret (v := .agg #[.int .i64 m, .int .i64 b, .int .i64 p, .int .i64 q]) (by simp [results, Tryz.results15, go_sem, *]) rfl ⟨_, ⟨_, _, _, _, rfl⟩, rfl, ?_, ?_⟩
    · repeat (refine Src.put ?_ (by omega) (by omega) _)
      exact HS.out
    · repeat (refine Only.put ?_ (.inr (by first | exact Nat.le_refl _ | omega)) _)
      exact HO.out
  by_cases e1 : a = 1
  · subst e1
    go_wp2_with (go_at_call 34; refine (among_draw w0 _ bs sv zs _ _ _ [0, 7] (by omega) (by simp) (by simp) (by omega) (flit_at _ _ _ _ (by simp)) (HS.out.alloc _)).mono ?_; rintro e w3 ⟨_, ⟨m, hm, rfl⟩, rfl, hS, ho⟩; refine Hid.out ?_)
    refine Lib.hid ?_
    replace HS := Lib.hid hS
    replace HR := Lib.hid ((HR.out.alloc _).only (by omega) ho)
    replace HV := Lib.hid ((HV.out.alloc _).only (by omega) ho)
    replace HO := Lib.hid (Only.trans (HO.out.alloc _) ho)
    clear hS ho hm
    obtain ⟨c0, c1, c2, c3, z0, z1, z2, z3⟩ := HV.out
    obtain ⟨r0, r1, r2, r3, s0, s1, s2, s3⟩ := HR.out
    have hx1 := HR.out.lt
    have hx2 := HV.out.lt
    go_wp2_with (fail)
    refine bodyPost_ret (v := .agg #[.int .i64 k, .int .i64 m, .int .i64 p, .int .i64 q]) (by simp [results, Tryz.results15, go_sem, *]) rfl ⟨_, ⟨_, _, _, _, rfl⟩, rfl, ?_, ?_⟩
    · repeat (refine Src.put ?_ (by omega) (by omega) _)
      exact HS.out
    · repeat (refine Only.put ?_ (.inr (by first | exact Nat.le_refl _ | omega)) _)
      exact HO.out
  by_cases e2 : a = 2
  · subst e2
    obtain ⟨c0, c1, c2, c3, z0, z1, z2, z3⟩ := HV.out
    have hw : IntKind.i64.wrap (p - 1) = p - 1 := IntWalk.i64_in _ ⟨by omega, by omega⟩
    go_wp2_with (go_at_call 34; refine (among_draw w0 _ bs sv zs _ _ _ [p - 1, 1200, 1201] (by omega) (by simp) (by simp) (by omega) (flit_at _ _ _ _ (by simp)) (HS.out.alloc _)).mono ?_; rintro e w3 ⟨_, ⟨m, hm, rfl⟩, rfl, hS, ho⟩; refine Hid.out ?_)
    refine Lib.hid ?_
    clear c0 c1 c2 c3 z0 z1 z2 z3
    replace HS := Lib.hid hS
    replace HR := Lib.hid ((HR.out.alloc _).only (by omega) ho)
    replace HV := Lib.hid ((HV.out.alloc _).only (by omega) ho)
    replace HO := Lib.hid (Only.trans (HO.out.alloc _) ho)
    clear hS ho hm
    obtain ⟨c0, c1, c2, c3, z0, z1, z2, z3⟩ := HV.out
    obtain ⟨r0, r1, r2, r3, s0, s1, s2, s3⟩ := HR.out
    have hx1 := HR.out.lt
    have hx2 := HV.out.lt
    go_wp2_with (fail)
    refine bodyPost_ret (v := .agg #[.int .i64 k, .int .i64 b, .int .i64 m, .int .i64 q]) (by simp [results, Tryz.results15, go_sem, *]) rfl ⟨_, ⟨_, _, _, _, rfl⟩, rfl, ?_, ?_⟩
    · repeat (refine Src.put ?_ (by omega) (by omega) _)
      exact HS.out
    · repeat (refine Only.put ?_ (.inr (by first | exact Nat.le_refl _ | omega)) _)
      exact HO.out
  by_cases e3 : a = 3
  · subst e3
    go_wp2_with (go_at_call 34; refine (among_draw w0 _ bs sv zs _ _ _ [59, 60, 140, 141] (by omega) (by simp) (by simp) (by omega) (flit_at _ _ _ _ (by simp)) (HS.out.alloc _)).mono ?_; rintro e w3 ⟨_, ⟨m, hm, rfl⟩, rfl, hS, ho⟩; refine Hid.out ?_)
    refine Lib.hid ?_
    replace HS := Lib.hid hS
    replace HR := Lib.hid ((HR.out.alloc _).only (by omega) ho)
    replace HV := Lib.hid ((HV.out.alloc _).only (by omega) ho)
    replace HO := Lib.hid (Only.trans (HO.out.alloc _) ho)
    clear hS ho hm
    obtain ⟨c0, c1, c2, c3, z0, z1, z2, z3⟩ := HV.out
    obtain ⟨r0, r1, r2, r3, s0, s1, s2, s3⟩ := HR.out
    have hx1 := HR.out.lt
    have hx2 := HV.out.lt
    go_wp2_with (fail)
    refine bodyPost_ret (v := .agg #[.int .i64 k, .int .i64 b, .int .i64 p, .int .i64 m]) (by simp [results, Tryz.results15, go_sem, *]) rfl ⟨_, ⟨_, _, _, _, rfl⟩, rfl, ?_, ?_⟩
    · repeat (refine Src.put ?_ (by omega) (by omega) _)
      exact HS.out
    · repeat (refine Only.put ?_ (.inr (by first | exact Nat.le_refl _ | omega)) _)
      exact HO.out
  · replace HS := Lib.hid (HS.out.more (show 0 + 8 + 2 ≤ 12 by omega))
    obtain ⟨c0, c1, c2, c3, z0, z1, z2, z3⟩ := HV.out
    obtain ⟨r0, r1, r2, r3, s0, s1, s2, s3⟩ := HR.out
    have hx1 := HR.out.lt
    have hx2 := HV.out.lt
    go_wp2_with (fail)
    refine bodyPost_ret (v := .agg #[.int .i64 k, .int .i64 b, .int .i64 p, .int .i64 q]) (by simp [results, Tryz.results15, go_sem, *]) rfl ⟨_, ⟨_, _, _, _, rfl⟩, rfl, ?_, ?_⟩
    · repeat (refine Src.put ?_ (by omega) (by omega) _)
      exact HS.out
    · repeat (refine Only.put ?_ (.inr (by first | exact Nat.le_refl _ | omega)) _)
      exact HO.out
set_option maxRecDepth 100000 in
set_option maxHeartbeats 2000000 in
theorem drawnext_any (w : World) (sv : Value) (zs : List Int) (hA : ArgIn .u8 w sv zs) (hz : BytesAre zs) (hl : zs.length ≤ 1048576) :
    Calls Tryz.prog 5 #[sv] w fun e w' => ∃ k b p q t : Int, e = .returned (.tuple #[.agg #[.int .i64 k, .int .i64 b, .int .i64 p, .int .i64 q], .int .i64 t]) ∧ Below w.heap.size w w' := by
  have hA0 := Lib.hid (fun w' (hb : Below w.heap.size w w') => from_new w' sv zs (hA.below hb) hz hl)
  have HR := Lib.hid (Var4.new w (.int .i64 0) (.int .i64 0) (.int .i64 0) (.int .i64 0) 25)
  clear hA hz hl
  go_enter Tryz.func5, Tryz.ntmps5
  go_wp2_with (go_at_call 14; refine (hA0.out _ (by go_grown)).mono ?_; rintro e w1 ⟨rfl, hS, hb⟩; refine Hid.out ?_)
  refine Lib.hid ?_
  replace HR := Lib.hid (HR.out.below hb)
  have HB := Lib.hid (Below.next (a := w) (by go_grown) hb)
  have hsz : w.heap.size + 1 = (w.alloc (.cells #[.int .i64 0, .int .i64 0, .int .i64 0, .int .i64 0] 25)).heap.size := by simp
  rw [← hsz] at hS
  generalize w.alloc (.cells #[.int .i64 0, .int .i64 0, .int .i64 0, .int .i64 0] 25) = wa at *
  have HS := Lib.hid hS
  have hwa : wa.heap.size = w.heap.size + 1 := hsz.symm
  clear hS hb hsz
  go_wp2_with (go_at_call 15; refine (fogdraw_draw wa _ _ sv zs HS.out).mono ?_; rintro e w2 ⟨_, ⟨k, b, p, q, rfl⟩, rfl, hS, ho⟩; refine Hid.out ?_)
  refine Lib.hid ?_
  have hb2 := hS.lt
  have hlw := hS.bel.size
  have hsz2 := ho.size
  replace HS := Lib.hid hS
  replace HR := Lib.hid (HR.out.only (by omega) ho)
  replace HB := Lib.hid (show Below w.heap.size w w2 from Only.below HB.out ho (by omega) (Nat.le_refl _))
  clear hS ho
  have HV := Lib.hid (Var4.new w2 (.int .i64 k) (.int .i64 b) (.int .i64 p) (.int .i64 q) 25)
  have hRV := HR.out.lt
  obtain ⟨c0, c1, c2, c3, z0, z1, z2, z3⟩ := HV.out
  go_wp2_with (fail)
  go_region_with (first
    | (go_at_call 16; (refine (dtime_draw wa _ _ sv zs 12 (by decide) (HS.out.alloc _).drew).mono ?_); rintro e w3 ⟨_, ⟨tt, rfl⟩, rfl, hS, ho⟩; have V3 := Lib.hid ((HV.out.below (Below.refl _ _).drew).only (by omega) ho); have R3 := Lib.hid ((((HR.out.alloc _).below (Below.refl _ _).drew)).only (by omega) ho); have hsz3 := ho.size; have B3 := Lib.hid (show Below w.heap.size w w3 from Only.below (HB.out.alloc (by have := HB.out.size; omega) (.cells #[.int .i64 k, .int .i64 b, .int .i64 p, .int .i64 q] 25)).drew ho (by omega) (Nat.le_refl _)); clear hS ho; obtain ⟨v0, v1, v2, v3, y0, y1, y2, y3⟩ := V3.out; obtain ⟨r0, r1, r2, r3, s0, s1, s2, s3⟩ := R3.out))
  all_goals
    go_wp2_with (fail)
    refine bodyPost_ret (v := .tuple #[.agg #[.int .i64 k, .int .i64 b, .int .i64 p, .int .i64 q], .int .i64 tt]) (by simp [results, Tryz.results5, go_sem, *]) rfl ⟨_, _, _, _, _, rfl, ?_⟩
    repeat (refine Below.setCell ?_ (by exact Nat.le_refl _) _)
    exact B3.out
end Go.Proofs.YthheacebafleeacGreatDoor
