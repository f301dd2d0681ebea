/- The program's tables of fog signals, and its three errors, as a row's list gives them. The program's row of a kind; what is wrong with a fog signal. -/
import Derived.Test.YthheacebafleeacGreatDoorFogM
import Derived.Test.YthheacebafleeacGreatDoorOkX
import Derived.Test.YthheacebafleeacGreatDoorRows
import Derived.LaidMore
import Derived.LaidSub
import Derived.Lib.SmallJoins
import Derived.Stop.LaidTwo
import Derived.Deep.RegionHeld3
namespace Go.Proofs.YthheacebafleeacGreatDoor
open Go.ChangeShapes Go.WideShapes Go.ChangeAt Go.RowKit Go.Joins Pm

theorem pick_cell2 {l : List Value} {r i : Nat} {v : Value} (h : (((l.drop (r * 2)).take 2).drop i).take 1 = [v]) : l[r * 2 + i]? = some v := by
  have h0 : ((((l.drop (r * 2)).take 2).drop i).take 1)[0]? = some v := by rw [h]; rfl
  rw [List.getElem?_take, if_pos (by omega), List.getElem?_drop, List.getElem?_take, Nat.add_zero] at h0
  split at h0
  · rwa [List.getElem?_drop] at h0
  · cases h0
/-- The program's table of fog signals lies there. -/
def FogsAt (w : World) : Prop := ∀ r : Nat, r < 5 → w.cell? ⟨0, r * 2, none⟩ = some (.string (fogNm r)) ∧ w.cell? ⟨0, r * 2 + 1, none⟩ = some (.int .i64 (fogLen r))
theorem FogsAt.below {w w' : World} (h : FogsAt w) (hb : Below w.heap.size w w') : FogsAt w' := fun r hr => ⟨cell_below (h r hr).1 hb, cell_below (h r hr).2 hb⟩
def fogRows : List (List UInt8 × Int) := [([], 0), ([72, 111, 114, 110], 20), ([83, 105, 114, 101, 110], 40), ([66, 101, 108, 108], 5), ([87, 104, 105, 115], 30)]
theorem fogs_of {W : World} {r : List (String × DataW Unit)} (h : laidMet Tryz.prog (("loop.example/g00953/impl.fogTable", Rows.laid_loop_example_g00953_impl_fogTable) :: r) W) : FogsAt W := by
  obtain ⟨ps, ⟨g, t, cs, fuel, p, q, hg, ht, hv, hd, _, _⟩, _, _⟩ := h
  obtain rfl := Option.some.inj ((show Tryz.prog.globalNamed "loop.example/g00953/impl.fogTable" = some 0 by kernel_rfl).symm.trans hg)
  obtain rfl := Option.some.inj ((show (Tryz.prog.globals[0]?).map (·.type) = some 80 by kernel_rfl).symm.trans ht)
  obtain ⟨xs, m, _, ex, _, hl, hel⟩ := DataW.trod_array Tryz.underlying80 hd
  have c4 : Tryz.prog.cellsOf 46 = 2 := by kernel_rfl
  have c1 : Tryz.prog.cellsOf 9 = 1 := by kernel_rfl
  have ci : Tryz.prog.cellsOf 2 = 1 := by kernel_rfl
  intro r hr
  have hE := hel r hr
  rw [c4, List.getElem?_eq_getElem (by omega)] at hE
  obtain ⟨y0, y1, n, e4, _, t0, t1⟩ := trod_struct2 Tryz.underlying46 hE
  simp only [c1, ci] at t0 t1
  obtain ⟨s, s1, s2, _⟩ := DataW.trod_string Tryz.underlying9 t0
  obtain ⟨f, f1, f2, _⟩ := DataW.trod_int Tryz.underlying2 t1
  have e3 : (xs.map (·.1)) = (fogRows.map fun k => (.agg [.lit (.string k.1), .lit (.int .i64 k.2)] : DataW Unit)) := (DataW.agg.inj (Prod.mk.inj ex).1).symm
  have hlen : fogRows.length = 5 := rfl
  have hxl : xs.length = 5 := by have := congrArg List.length e3; simpa [hlen] using this
  have e5 : (xs.map (·.1))[r]? = (fogRows.map fun k => (.agg [.lit (.string k.1), .lit (.int .i64 k.2)] : DataW Unit))[r]? := by rw [e3]
  rw [List.getElem?_map, List.getElem?_map, List.getElem?_eq_getElem (by omega : r < xs.length), List.getElem?_eq_getElem (by omega : r < fogRows.length), e4] at e5
  rw [s2, f2] at e5
  simp only [Option.map_some, Option.some.injEq, DataW.agg.injEq, List.cons.injEq, DataW.lit.injEq, Lit.string.injEq, Lit.int.injEq, true_and, and_true] at e5
  obtain ⟨a0, a1⟩ := e5
  have hs : s = fogNm r := by
    refine WideShapes.bytes_inj ?_
    rw [a0]
    have : r = 0 ∨ r = 1 ∨ r = 2 ∨ r = 3 ∨ r = 4 := by omega
    rcases this with rfl | rfl | rfl | rfl | rfl <;> rfl
  have hf : f = fogLen r := by
    rw [a1]
    have : r = 0 ∨ r = 1 ∨ r = 2 ∨ r = 3 ∨ r = 4 := by omega
    rcases this with rfl | rfl | rfl | rfl | rfl <;> rfl
  have pin : ∀ (i : Nat) (v : Value), cs.toList[r * 2 + i]? = some v → W.cell? ⟨0, r * 2 + i, none⟩ = some v := by
    intro i v h
    rw [World.var?_cell hg hv (r * 2 + i)]
    simpa using h
  rw [hs] at s1
  rw [hf] at f1
  exact ⟨pin 0 _ (pick_cell2 s1), pin 1 _ (pick_cell2 f1)⟩

/-- The program's table of loudness lies there. -/
def sndRows : List (Int × Int) := [(60, 50), (80, 200), (100, 1000), (120, 4000), (140, 8000)]
def SndsAt (w : World) : Prop := ∀ r : Nat, r < 5 → w.cell? ⟨1, r * 2, none⟩ = some (.int .i64 (sndRows.getD r (0, 0)).1) ∧ w.cell? ⟨1, r * 2 + 1, none⟩ = some (.int .i64 (sndRows.getD r (0, 0)).2)
theorem SndsAt.below {w w' : World} (h : SndsAt w) (hb : Below w.heap.size w w') : SndsAt w' := fun r hr => ⟨cell_below (h r hr).1 hb, cell_below (h r hr).2 hb⟩
theorem snds_of {W : World} {r : List (String × DataW Unit)} (h : laidMet Tryz.prog (("loop.example/g00953/impl.soundTable", Rows.laid_loop_example_g00953_impl_soundTable) :: r) W) : SndsAt W := by
  obtain ⟨ps, ⟨g, t, cs, fuel, p, q, hg, ht, hv, hd, _, _⟩, _, _⟩ := h
  obtain rfl := Option.some.inj ((show Tryz.prog.globalNamed "loop.example/g00953/impl.soundTable" = some 1 by kernel_rfl).symm.trans hg)
  obtain rfl := Option.some.inj ((show (Tryz.prog.globals[1]?).map (·.type) = some 91 by kernel_rfl).symm.trans ht)
  obtain ⟨xs, m, _, ex, _, hl, hel⟩ := DataW.trod_array Tryz.underlying91 hd
  have c4 : Tryz.prog.cellsOf 90 = 2 := by kernel_rfl
  have ci : Tryz.prog.cellsOf 2 = 1 := by kernel_rfl
  intro r hr
  have hE := hel r hr
  rw [c4, List.getElem?_eq_getElem (by omega)] at hE
  obtain ⟨y0, y1, n, e4, _, t0, t1⟩ := trod_struct2 Tryz.underlying90 hE
  simp only [ci] at t0 t1
  obtain ⟨s, s1, s2, _⟩ := DataW.trod_int Tryz.underlying2 t0
  obtain ⟨f, f1, f2, _⟩ := DataW.trod_int Tryz.underlying2 t1
  have e3 : (xs.map (·.1)) = (sndRows.map fun k => (.agg [.lit (.int .i64 k.1), .lit (.int .i64 k.2)] : DataW Unit)) := (DataW.agg.inj (Prod.mk.inj ex).1).symm
  have hlen : sndRows.length = 5 := rfl
  have hxl : xs.length = 5 := by have := congrArg List.length e3; simpa [hlen] using this
  have e5 : (xs.map (·.1))[r]? = (sndRows.map fun k => (.agg [.lit (.int .i64 k.1), .lit (.int .i64 k.2)] : DataW Unit))[r]? := by rw [e3]
  rw [List.getElem?_map, List.getElem?_map, List.getElem?_eq_getElem (by omega : r < xs.length), List.getElem?_eq_getElem (by omega : r < sndRows.length), e4] at e5
  have hk : sndRows.getD r (0, 0) = sndRows[r]'(by omega) := by rw [List.getD, List.getElem?_eq_getElem (by omega : r < sndRows.length)]; rfl
  rw [s2, f2] at e5
  simp only [Option.map_some, Option.some.injEq, DataW.agg.injEq, List.cons.injEq, DataW.lit.injEq, Lit.int.injEq, true_and, and_true] at e5
  obtain ⟨a0, a1⟩ := e5
  have pin : ∀ (i : Nat) (v : Value), cs.toList[r * 2 + i]? = some v → W.cell? ⟨1, r * 2 + i, none⟩ = some v := by
    intro i v h
    rw [World.var?_cell hg hv (r * 2 + i)]
    simpa using h
  rw [hk]
  rw [a0] at s1
  rw [a1] at f1
  exact ⟨pin 0 _ (pick_cell2 s1), pin 1 _ (pick_cell2 f1)⟩

/-! The three errors. -/
def errV (a : Addr) : Value := .iface 137 (.pointer (some a))
/-- A block of cells of which none is frozen. -/
def PlainBlk (w : World) (a : Addr) : Prop := ∃ c t, w.heap[a.block]? = some (.cells c t (0, 0))
theorem PlainBlk.below {w w' : World} {a : Addr} (h : PlainBlk w a) (hb : Below w.heap.size w w') : PlainBlk w' a := by
  obtain ⟨c, t, h⟩ := h
  have hlt : a.block < w.heap.size := by
    rcases Nat.lt_or_ge a.block w.heap.size with h' | h'
    · exact h'
    · rw [Array.getElem?_eq_none h'] at h; cases h
  exact ⟨c, t, by rw [hb.block _ hlt]; exact h⟩
def FogErrs (a b c : Addr) (w : World) : Prop := w.cell? ⟨2, 0, none⟩ = some (errV a) ∧ w.cell? ⟨3, 0, none⟩ = some (errV b) ∧ w.cell? ⟨4, 0, none⟩ = some (errV c) ∧ b ≠ a ∧ c ≠ a ∧ PlainBlk w a ∧ PlainBlk w b ∧ PlainBlk w c
theorem FogErrs.below {a b c : Addr} {w w' : World} (h : FogErrs a b c w) (hb : Below w.heap.size w w') : FogErrs a b c w' := by
  obtain ⟨h1, h2, h3, h4, h5, h6, h7, h8⟩ := h
  exact ⟨cell_below h1 hb, cell_below h2 hb, cell_below h3 hb, h4, h5, h6.below hb, h7.below hb, h8.below hb⟩
theorem var_cell0 {W : World} {n : String} {g : Nat} {v : Value} (hg : Tryz.prog.globalNamed n = some g) (h : W.var? Tryz.prog n = some #[v]) : W.cell? ⟨g, 0, none⟩ = some v := by
  rw [World.var?_cell hg h 0]; rfl
theorem fog_star : "*" ++ "errors.errorString" = "*errors.errorString" := by decide
set_option maxRecDepth 100000 in
theorem fog_row (u : TypeId) (h : Tryz.prog.typeName? 3 u = some "*errors.errorString") : u = 137 :=
  typeName_ptr_named (nm := "errors.errorString") (by rw [fog_star]; kernel_rfl) (by kernel_rfl) (by decide) u (by rw [fog_star]; exact h)
set_option maxRecDepth 100000 in
theorem two_errs {W : World} {n0 n1 : String} {x y : List UInt8} {g0 g1 : Nat} {r : List (String × DataW Unit)}
    (h : laidMet Tryz.prog ((n0, .iface "*errors.errorString" (.ptr (.agg [.lit (.string x)]))) :: (n1, .iface "*errors.errorString" (.ptr (.agg [.lit (.string y)]))) :: r) W)
    (hg0 : Tryz.prog.globalNamed n0 = some g0) (ht0 : (Tryz.prog.globals[g0]?).map (·.type) = some 77) (hg1 : Tryz.prog.globalNamed n1 = some g1) (ht1 : (Tryz.prog.globals[g1]?).map (·.type) = some 77) :
    ∃ a b, W.cell? ⟨g0, 0, none⟩ = some (errV a) ∧ W.cell? ⟨g1, 0, none⟩ = some (errV b) ∧ b ≠ a ∧ PlainBlk W a ∧ PlainBlk W b := by
  obtain ⟨a0, a1, s0, s1, c0, c1, t0, t1, hv0, hv1, hc0, hs0, hz0, hc1, hs1, hz1, hne, hb0, hb1⟩ := laid_sentinels2 h hg0 ht0 hg1 ht1 Tryz.underlying77 (tp := 137) fog_row Tryz.underlying137 Tryz.underlying139 rfl rfl Tryz.underlying9 (by kernel_rfl) (by kernel_rfl)
  exact ⟨a0, a1, var_cell0 hg0 hv0, var_cell0 hg1 hv1, fun e => hne e.symm, ⟨c0, t0, hb0⟩, ⟨c1, t1, hb1⟩⟩
/-- What a row's list says of the table and of the errors. -/
theorem fogs_in {W : World} {l : List (String × DataW Unit)} (h : laidMet Tryz.prog l W) (e : (l.filter fun x => x.1 == "loop.example/g00953/impl.fogTable") = [("loop.example/g00953/impl.fogTable", Rows.laid_loop_example_g00953_impl_fogTable)]) : FogsAt W :=
  fogs_of (r := []) (by have := h.filter (fun x => x.1 == "loop.example/g00953/impl.fogTable"); rwa [e] at this)
theorem snds_in {W : World} {l : List (String × DataW Unit)} (h : laidMet Tryz.prog l W) (e : (l.filter fun x => x.1 == "loop.example/g00953/impl.soundTable") = [("loop.example/g00953/impl.soundTable", Rows.laid_loop_example_g00953_impl_soundTable)]) : SndsAt W :=
  snds_of (r := []) (by have := h.filter (fun x => x.1 == "loop.example/g00953/impl.soundTable"); rwa [e] at this)
theorem errs_in {W : World} {l : List (String × DataW Unit)} (h : laidMet Tryz.prog l W)
    (e : (l.filter fun x => x.1 == "loop.example/g00953/impl.errBlasts" || x.1 == "loop.example/g00953/impl.errPeriod") = [("loop.example/g00953/impl.errBlasts", Rows.laid_loop_example_g00953_impl_errBlasts), ("loop.example/g00953/impl.errPeriod", Rows.laid_loop_example_g00953_impl_errPeriod)])
    (f : (l.filter fun x => x.1 == "loop.example/g00953/impl.errBlasts" || x.1 == "loop.example/g00953/impl.errPower") = [("loop.example/g00953/impl.errBlasts", Rows.laid_loop_example_g00953_impl_errBlasts), ("loop.example/g00953/impl.errPower", Rows.laid_loop_example_g00953_impl_errPower)]) : ∃ a b c, FogErrs a b c W := by
  have h1 := h.filter (fun x => x.1 == "loop.example/g00953/impl.errBlasts" || x.1 == "loop.example/g00953/impl.errPeriod")
  have h2 := h.filter (fun x => x.1 == "loop.example/g00953/impl.errBlasts" || x.1 == "loop.example/g00953/impl.errPower")
  rw [e] at h1
  rw [f] at h2
  obtain ⟨a, b, p1, p2, p3, p4, p5⟩ := two_errs (g0 := 2) (g1 := 3) h1 (by kernel_rfl) (by kernel_rfl) (by kernel_rfl) (by kernel_rfl)
  obtain ⟨a', c, q1, q2, q3, q4, q5⟩ := two_errs (g0 := 2) (g1 := 4) h2 (by kernel_rfl) (by kernel_rfl) (by kernel_rfl) (by kernel_rfl)
  have ea : a' = a := by
    rw [p1] at q1
    simpa [errV] using (Option.some.inj q1).symm
  subst ea
  exact ⟨a', b, c, p1, p2, q2, p3, q3, p4, p5, q5⟩
end Go.Proofs.YthheacebafleeacGreatDoor
namespace Go.Proofs.YthheacebafleeacGreatDoor
open Go.ChangeShapes Go.WideShapes Go.ChangeAt Go.RowKit Pm

theorem fwithin (z lo hi : Int) (b : Bool) (h : inB lo hi [z] = b) (w' : World) (n : Nat) (hn : w'.heap.size = n) : Calls Tryz.prog 36 #[.int .i64 lo, .int .i64 hi, .slice (some ⟨n, 0, none⟩) 1 1] (w'.alloc (.cells #[Value.int .i64 z] 2)) (fun e w'' => e = .returned (.bool b) ∧ (w'.alloc (.cells #[Value.int .i64 z] 2)) = w'') := by
  subst hn h
  exact within_any lo hi _ [z] _ (ints_one w' .i64 z 2)
set_option maxRecDepth 100000 in
theorem fogrow_no (k : Int) (w : World) (h : inB 1 4 [k] = false) :
    Calls Tryz.prog 42 #[.int .i64 k] w fun e w' => e = .returned (.agg #[.string ⟨#[]⟩, .int .i64 0]) ∧ Below w.heap.size w w' := by
  have HW := Lib.hid (fwithin k 1 4 false h)
  clear h
  go_enter Tryz.func42, Tryz.ntmps42
  go_wp2_with (go_at_call 36; (refine (HW.out _ _ ?_).mono ?_); (· simp); rintro e w1 ⟨rfl, hw1⟩; refine Hid.out ?_)
  refine Lib.hid ?_
  have hb : Below w.heap.size w w1 := by rw [← hw1]; go_grown
  have d0 : w1.cell? ⟨w.heap.size, 0, none⟩ = some (.string ⟨#[]⟩) := by rw [← hw1]; clear hw1; go_cell
  have d1 : w1.cell? ⟨w.heap.size, 1, none⟩ = some (.int .i64 0) := by rw [← hw1]; clear hw1; go_cell
  have g0 : w1.frozen? ⟨w.heap.size, 0, none⟩ = false := by rw [← hw1]; clear hw1; go_simp
  have g1 : w1.frozen? ⟨w.heap.size, 1, none⟩ = false := by rw [← hw1]; clear hw1; go_simp
  have HB := Lib.hid hb
  clear hw1 hb
  go_wp2
  refine bodyPost_ret (v := .agg #[.string ⟨#[]⟩, .int .i64 0]) (by simp [results, Tryz.results42, go_sem, *]) rfl ⟨rfl, ?_⟩
  iterate 2 (refine Below.setCell ?_ (by exact Nat.le_refl _) _)
  exact HB.out
set_option maxRecDepth 100000 in
theorem fogrow_yes (k : Int) (r : Nat) (w : World) (hF : FogsAt w) (h : inB 1 4 [k] = true) (hr : k = (r : Int)) :
    Calls Tryz.prog 42 #[.int .i64 k] w fun e w' => e = .returned (.agg #[.string (fogNm k), .int .i64 (fogLen k)]) ∧ Below w.heap.size w w' := by
  have h4 := inb_yes h
  have HW := Lib.hid (fwithin k 1 4 true h)
  subst hr
  have r5 : (r : Int) < 5 := by omega
  have HK := Lib.hid (fun w1 (hb : Below w.heap.size w w1) => hF.below hb r (by omega))
  obtain ⟨s, hs⟩ : ∃ s, s = fogNm r := ⟨_, rfl⟩
  obtain ⟨z, hz⟩ : ∃ z, z = fogLen r := ⟨_, rfl⟩
  rw [← hs, ← hz] at HK ⊢
  clear hF h hs hz h4
  go_enter Tryz.func42, Tryz.ntmps42
  go_wp2_with (go_at_call 36; (refine (HW.out _ _ ?_).mono ?_); (· simp); rintro e w1 ⟨rfl, hw1⟩; refine Hid.out ?_)
  refine Lib.hid ?_
  have hb : Below w.heap.size w w1 := by rw [← hw1]; go_grown
  obtain ⟨k0, k1⟩ := HK.out w1 hb
  have d0 : w1.cell? ⟨w.heap.size, 0, none⟩ = some (.string ⟨#[]⟩) := by rw [← hw1]; clear hw1; go_cell
  have d1 : w1.cell? ⟨w.heap.size, 1, none⟩ = some (.int .i64 0) := by rw [← hw1]; clear hw1; go_cell
  have g0 : w1.frozen? ⟨w.heap.size, 0, none⟩ = false := by rw [← hw1]; clear hw1; go_simp
  have g1 : w1.frozen? ⟨w.heap.size, 1, none⟩ = false := by rw [← hw1]; clear hw1; go_simp
  have HB := Lib.hid hb
  clear hw1 hb
  go_wp2
  refine bodyPost_ret (v := .agg #[.string s, .int .i64 z]) (by simp [results, Tryz.results42, go_sem, *]) rfl ⟨rfl, ?_⟩
  iterate 2 (refine Below.setCell ?_ (by exact Nat.le_refl _) _)
  exact HB.out
theorem fogrow_any (k : Int) (w : World) (hF : FogsAt w) :
    Calls Tryz.prog 42 #[.int .i64 k] w fun e w' => e = .returned (.agg #[.string (fogNm k), .int .i64 (fogLen k)]) ∧ Below w.heap.size w w' := by
  cases h : inB 1 4 [k]
  · rw [fogNm_out h, fogLen_out h]
    exact fogrow_no k w h
  · exact fogrow_yes k k.toNat w hF h (by have := inb_yes h; omega)
end Go.Proofs.YthheacebafleeacGreatDoor
