/- Reading marks: the model's. -/
import Derived.Test.YthheacebafleeaaDoorMrkZ
import Derived.Test.YthheacebafleeaaDoorMrkY
import Derived.Test.YthheacebafleeaaDoorSpb
import Derived.Deep.RegionHeld3
namespace Go.Proofs.YthheacebafleeaaDoor
open Go.ChangeShapes Go.WideShapes Go.ChangeAt Go.RowKit Pm

theorem qcell_swap {w : World} {a : Addr} {v : Value} {o o' : Obj} (n : a.block ≠ w.heap.size) (h : (w.alloc o).cell? a = some v) : (w.alloc o').cell? a = some v := by
  rw [World.cell?_alloc_old _ _ _ n] at h ⊢; exact h
theorem qbelow_swap {w0 w : World} {o o' : Obj} (n : w0.heap.size ≤ w.heap.size) (h : Below w0.heap.size w0 (w.alloc o)) : Below w0.heap.size w0 (w.alloc o') := by
  refine ⟨h.os, h.tape, h.output, ?_, ?_⟩
  · have := h.size; simp at this ⊢; omega
  · intro k hk
    have e := h.block k hk
    rw [Below.heap_alloc _ _ _ (by omega)] at e ⊢
    exact e
theorem qkeepA4 {w0 w : World} {a0 a1 a2 a3 : Addr} {v0 v1 v2 v3 : Value} {o : Obj} (h : w.cell? a0 = some v0 ∧ w.cell? a1 = some v1 ∧ w.cell? a2 = some v2 ∧ w.cell? a3 = some v3 ∧ Below w0.heap.size w0 w) : (w.alloc o).cell? a0 = some v0 ∧ (w.alloc o).cell? a1 = some v1 ∧ (w.alloc o).cell? a2 = some v2 ∧ (w.alloc o).cell? a3 = some v3 ∧ Below w0.heap.size w0 (w.alloc o) :=
  keep4 ((Below.refl _ _).alloc (Nat.le_refl _) _) h
theorem qkeepX4 {w0 w : World} {a0 a1 a2 a3 : Addr} {v0 v1 v2 v3 : Value} {o o' : Obj} (hB : w0.heap.size ≤ w.heap.size) (n0 : a0.block ≠ w.heap.size) (n1 : a1.block ≠ w.heap.size) (n2 : a2.block ≠ w.heap.size) (n3 : a3.block ≠ w.heap.size) (h : (w.alloc o).cell? a0 = some v0 ∧ (w.alloc o).cell? a1 = some v1 ∧ (w.alloc o).cell? a2 = some v2 ∧ (w.alloc o).cell? a3 = some v3 ∧ Below w0.heap.size w0 (w.alloc o)) : (w.alloc o').cell? a0 = some v0 ∧ (w.alloc o').cell? a1 = some v1 ∧ (w.alloc o').cell? a2 = some v2 ∧ (w.alloc o').cell? a3 = some v3 ∧ Below w0.heap.size w0 (w.alloc o') := by
  obtain ⟨h0, h1, h2, h3, hb⟩ := h
  exact ⟨qcell_swap n0 h0, qcell_swap n1 h1, qcell_swap n2 h2, qcell_swap n3 h3, qbelow_swap hB hb⟩

theorem qkeepS4 {w0 w : World} {a0 a1 a2 a3 p : Addr} {v0 v1 v2 v3 u : Value} (n0 : p.block ≠ a0.block) (n1 : p.block ≠ a1.block) (n2 : p.block ≠ a2.block) (n3 : p.block ≠ a3.block) (hp : w0.heap.size ≤ p.block) (h : w.cell? a0 = some v0 ∧ w.cell? a1 = some v1 ∧ w.cell? a2 = some v2 ∧ w.cell? a3 = some v3 ∧ Below w0.heap.size w0 w) : (w.setCell p u).cell? a0 = some v0 ∧ (w.setCell p u).cell? a1 = some v1 ∧ (w.setCell p u).cell? a2 = some v2 ∧ (w.setCell p u).cell? a3 = some v3 ∧ Below w0.heap.size w0 (w.setCell p u) := by
  obtain ⟨h0, h1, h2, h3, hb⟩ := h
  exact ⟨by rw [World.cell?_setCell_far _ _ _ _ n0]; exact h0, by rw [World.cell?_setCell_far _ _ _ _ n1]; exact h1, by rw [World.cell?_setCell_far _ _ _ _ n2]; exact h2, by rw [World.cell?_setCell_far _ _ _ _ n3]; exact h3, hb.setCell hp u⟩

theorem qfresh {w w2 : World} {T : TypeId} (hb : Below (w.alloc (.cells #[.int .i64 0, .string ⟨#[]⟩, .string ⟨#[]⟩, .string ⟨#[]⟩] T)).drew.heap.size (w.alloc (.cells #[.int .i64 0, .string ⟨#[]⟩, .string ⟨#[]⟩, .string ⟨#[]⟩] T)).drew w2) : w2.cell? ⟨w.heap.size, 0, none⟩ = some (.int .i64 0) ∧ w2.cell? ⟨w.heap.size, 1, none⟩ = some (.string ⟨#[]⟩) ∧ w2.cell? ⟨w.heap.size, 2, none⟩ = some (.string ⟨#[]⟩) ∧ w2.cell? ⟨w.heap.size, 3, none⟩ = some (.string ⟨#[]⟩) ∧ w2.frozen? ⟨w.heap.size, 0, none⟩ = false ∧ w2.frozen? ⟨w.heap.size, 1, none⟩ = false ∧ w2.frozen? ⟨w.heap.size, 2, none⟩ = false ∧ w2.frozen? ⟨w.heap.size, 3, none⟩ = false := by
  refine ⟨cell_below (by simp) hb, cell_below (by simp) hb, cell_below (by simp) hb, cell_below (by simp) hb, zfrozen_below (by simp) (by simp) hb, zfrozen_below (by simp) (by simp) hb, zfrozen_below (by simp) (by simp) hb, zfrozen_below (by simp) (by simp) hb⟩
theorem mark_sets {w : World} {B : Nat} {v0 v1 v2 v3 : Value} (h0 : w.cell? ⟨B, 0, none⟩ = some v0) (h1 : w.cell? ⟨B, 1, none⟩ = some v1) (h2 : w.cell? ⟨B, 2, none⟩ = some v2) (h3 : w.cell? ⟨B, 3, none⟩ = some v3) (k : Int) (c s t : ByteArray) :
    MarkCells ((((w.setCell ⟨B, 0, none⟩ (.int .i64 k)).setCell ⟨B, 1, none⟩ (.string c)).setCell ⟨B, 2, none⟩ (.string s)).setCell ⟨B, 3, none⟩ (.string t)) B k c s t := by
  refine ⟨?_, ?_, ?_, ?_⟩
  all_goals first | go_cell | (simp [*]; done)
theorem glt4 {w : World} {a : Addr} {u : Value} (h : w.cell? a = some u) : a.block < w.heap.size := World.block_lt_of_cell? w a h
theorem mark_set {w : World} {B : Nat} {k : Int} {c s t : ByteArray} (h : MarkCells w B k c s t) (u : ByteArray) : MarkCells (w.setCell ⟨B, 3, none⟩ (.string u)) B k c s u := by
  obtain ⟨h0, h1, h2, h3⟩ := h
  refine ⟨?_, ?_, ?_, ?_⟩
  all_goals first | go_cell | (simp [*]; done)
theorem qret {a b : Value} {x y : Bool} (h1 : a = b) (h2 : x = y) : Ending.returned (.tuple #[a, .bool x]) = .returned (.tuple #[b, .bool y]) := by rw [h1, h2]
set_option maxRecDepth 100000 in
/-- The text is none's, or its words are not four. -/
theorem sread_short (s : ByteArray) (w : World) (hs : s.size ≤ 1048576) (b : Bool) (hb : (s.toList == noneB.toList) = b) (h4 : b = true ∨ (cutS 32 s).length ≠ 4) :
    Calls Tryd.prog 51 #[.string s] w fun e w' => e = .returned (.tuple #[mk0.val, .bool b]) ∧ Below w.heap.size w w' := by
  have hnb : (s.toList == [110, 111, 110, 101]) = b := by rw [← hb]; unfold noneB; rw [ByteArray.toList_eq (bs := ⟨#[110, 111, 110, 101]⟩)]
  cases b
  · have h4 : (cutS 32 s).length ≠ 4 := by rcases h4 with h | h <;> simp_all
    have hpos : 0 < (cutS 32 s).length := by rw [cutS_len]; omega
    have HSP := Lib.hid (fun w' => (show Calls Tryd.prog 60 #[.string s, .int .u8 32] w' (OwnRet 9 (strV (cutS 32 s)) w') from ssplit_any s 32 w' hs))
    obtain ⟨n, hn⟩ : ∃ n, n = (strV (cutS 32 s)).length := ⟨_, rfl⟩
    have hn4 : ((n : Int) == 4) = false := beq_eq_false_iff_ne.2 (by rw [hn, strV_len]; omega)
    have hn5 : ((n : Int) != 4) = true := by rw [bne, hn4]; rfl
    have HF := Lib.hid (fun (w' : World) (u : Value) (B : Nat) (ho : w'.ownsRow B 9 1 u (strV (cutS 32 s)).length (strV (cutS 32 s))) => (show ∃ g cap, u = .slice (some ⟨g, 0, none⟩) n cap from by
      rw [← hn] at ho
      obtain ⟨g, cap, h, _, _⟩ := ho.form (by rw [hn, strV_len]; exact hpos)
      exact ⟨g, cap, h⟩))
    clear hb hs h4 hpos hn
    go_enter Tryd.func51, Tryd.ntmps51
    go_wp2_with (go_at_call 60; (refine (HSP.out _).mono ?_); rintro e w1 ⟨u, rfl, ho, hb⟩; refine Hid.out ?_)
    refine Lib.hid ?_
    obtain ⟨g, cap, rfl⟩ := HF.out _ _ _ ho
    have d0 : w1.cell? ⟨w.heap.size, 0, none⟩ = some (.int .i64 0) := cell_below (by simp) hb
    have d1 : w1.cell? ⟨w.heap.size, 1, none⟩ = some (.string ⟨#[]⟩) := cell_below (by simp) hb
    have d2 : w1.cell? ⟨w.heap.size, 2, none⟩ = some (.string ⟨#[]⟩) := cell_below (by simp) hb
    have d3 : w1.cell? ⟨w.heap.size, 3, none⟩ = some (.string ⟨#[]⟩) := cell_below (by simp) hb
    have g0 : w1.frozen? ⟨w.heap.size, 0, none⟩ = false := zfrozen_below (by simp) (by first | (simp; done) | (simp; omega)) hb
    have g1 : w1.frozen? ⟨w.heap.size, 1, none⟩ = false := zfrozen_below (by simp) (by first | (simp; done) | (simp; omega)) hb
    have g2 : w1.frozen? ⟨w.heap.size, 2, none⟩ = false := zfrozen_below (by simp) (by first | (simp; done) | (simp; omega)) hb
    have g3 : w1.frozen? ⟨w.heap.size, 3, none⟩ = false := zfrozen_below (by simp) (by first | (simp; done) | (simp; omega)) hb
    have AC := Lib.hid (Below.next (a := w) (by go_grown) hb)
    have hz1 : w.heap.size < w1.heap.size := by have hh := hb.size; first | omega | (simp at hh; omega)
    clear hb ho
    go_wp2
    refine bodyPost_ret (v := .tuple #[.agg #[.int .i64 0, .string ⟨#[]⟩, .string ⟨#[]⟩, .string ⟨#[]⟩], .bool false]) (by simp [results, Tryd.results51, go_sem, *]) rfl ⟨rfl, ?_⟩
    repeat (refine Below.setCell ?_ (by exact Nat.le_refl _) _)
    exact AC.out
  · clear hb hs h4
    go_enter Tryd.func51, Tryd.ntmps51
    go_wp2
    refine bodyPost_ret (v := .tuple #[.agg #[.int .i64 0, .string ⟨#[]⟩, .string ⟨#[]⟩, .string ⟨#[]⟩], .bool true]) (by simp [results, Tryd.results51, go_sem, *]) rfl ⟨rfl, ?_⟩
    go_grown
theorem sread_cells (s p0 p1 p2 p3 : ByteArray) (hcut : cutS 32 s = [p0, p1, p2, p3]) (w : World) (hs : s.size ≤ 1048576) :
    Calls Tryd.prog 60 #[.string s, .int .u8 32] w fun e w' => ∃ g cap, e = .returned (.slice (some ⟨g, 0, none⟩) 4 cap) ∧ w'.cell? ⟨g, 0, none⟩ = some (.string p0) ∧ w'.cell? ⟨g, 1, none⟩ = some (.string p1) ∧ w'.cell? ⟨g, 2, none⟩ = some (.string p2) ∧ w'.cell? ⟨g, 3, none⟩ = some (.string p3) ∧ Below w.heap.size w w' := by
  refine (show Calls Tryd.prog 60 #[.string s, .int .u8 32] w (OwnRet 9 (strV (cutS 32 s)) w) from ssplit_any s 32 w hs).mono ?_
  rintro e w' ⟨u, rfl, ho, hb⟩
  rw [hcut] at ho
  obtain ⟨g, cap, rfl, _, _⟩ := ho.form (by simp [strV])
  have h0 := ho.cellAt 0 (by simp [strV])
  have h1 := ho.cellAt 1 (by simp [strV])
  have h2 := ho.cellAt 2 (by simp [strV])
  have h3 := ho.cellAt 3 (by simp [strV])
  simp only [strV, List.map_cons, List.map_nil, List.getElem?_cons_zero, List.getElem?_cons_succ] at h0 h1 h2 h3
  exact ⟨g, cap, rfl, h0, h1, h2, h3, hb⟩
set_option maxRecDepth 100000 in
set_option maxHeartbeats 4000000 in
/-- Four words. -/
theorem sread_four (s p0 p1 p2 p3 : ByteArray) (v : Int) (w : World) (hs : s.size ≤ 1048576) (hv : NamedIs p0 v) (hno : (s.toList == noneB.toList) = false) (hcut : cutS 32 s = [p0, p1, p2, p3])
    (z : Bool) (hz : (inB 1 9 [v] && (mkOk v p1 p2 (dashT p3) && ((mkT v p1 p2 (dashT p3)).toList == s.toList))) = z) :
    Calls Tryd.prog 51 #[.string s] w fun e w' => e = .returned (.tuple #[if z then .agg #[.int .i64 v, .string p1, .string p2, .string (dashT p3)] else .agg #[.int .i64 0, .string ⟨#[]⟩, .string ⟨#[]⟩, .string ⟨#[]⟩], .bool z]) ∧ Below w.heap.size w w' := by
  have hnb : (s.toList == [110, 111, 110, 101]) = false := by rw [← hno]; unfold noneB; rw [ByteArray.toList_eq (bs := ⟨#[110, 111, 110, 101]⟩)]
  have HSP := Lib.hid (fun w' => sread_cells s p0 p1 p2 p3 hcut w' hs)
  have HN := Lib.hid (fun w' => slnamed_any p0 v w' hv)
  have HK := fun w' => skind_any v w'
  have hD : ((p3.toList == [45]) = true → dashT p3 = ⟨#[]⟩) ∧ ((p3.toList == [45]) = false → dashT p3 = p3) := ⟨fun h => by unfold dashT; rw [if_pos h], fun h => by unfold dashT; rw [if_neg (by rw [h]; decide)]⟩
  obtain ⟨t, ht⟩ : ∃ t, t = dashT p3 := ⟨_, rfl⟩
  rw [← ht] at hz hD ⊢
  have HO := fun B w' (h : MarkCells w' B v p1 p2 t) => smkok_any B v p1 p2 t w' h
  have HT := fun B w' ok (h : MarkCells w' B v p1 p2 t) => stextmark_any B v p1 p2 t w' ok h
  generalize mkT v p1 p2 t = tx at *
  generalize mkOk v p1 p2 t = ok at *
  generalize inB 1 9 [v] = kn at *
  clear hs hv hno hcut ht
  have hne : ∀ b, (tx.toList == s.toList) = b → (tx.toList != s.toList) = !b := fun b h => by rw [bne, h]
  cases h3 : (p3.toList == ([45] : List UInt8))
  case' false =>
    have e := (hD.2 h3).symm
    subst e
  case' true =>
    have e := hD.1 h3
    subst e
  all_goals
    clear hD
    cases kn
    case' true => cases ok
    case' true.true => cases hts : (tx.toList == s.toList)
    all_goals
      first | (have hbn := hne _ hts; simp only [Bool.not_false, Bool.not_true] at hbn) | skip
      clear hne
      first | rw [hts] at hz | skip
      change (_ : Bool) = z at hz
      first
        | (have hzz : false = z := hz
           clear hz
           subst hzz)
        | (have hzz : true = z := hz
           clear hz
           subst hzz)
        | (have hzz : false = z := by rw [← hz]; simp
           clear hz
           subst hzz)
      simp only [Bool.false_eq_true, if_false, if_true]
      replace HK := Lib.hid HK
      replace HO := Lib.hid HO
      replace HT := Lib.hid HT
      go_enter Tryd.func51, Tryd.ntmps51
      go_wp2_with (go_at_call 60; (refine (HSP.out _).mono ?_); rintro e w1 ⟨g, cap, rfl, x0, x1, x2, x3, hb⟩; refine Hid.out ?_)
      refine Lib.hid ?_
      have d0 : w1.cell? ⟨w.heap.size, 0, none⟩ = some (.int .i64 0) := cell_below (by simp) hb
      have d1 : w1.cell? ⟨w.heap.size, 1, none⟩ = some (.string ⟨#[]⟩) := cell_below (by simp) hb
      have d2 : w1.cell? ⟨w.heap.size, 2, none⟩ = some (.string ⟨#[]⟩) := cell_below (by simp) hb
      have d3 : w1.cell? ⟨w.heap.size, 3, none⟩ = some (.string ⟨#[]⟩) := cell_below (by simp) hb
      have g0 : w1.frozen? ⟨w.heap.size, 0, none⟩ = false := zfrozen_below (by simp) (by first | (simp; done) | (simp; omega)) hb
      have g1 : w1.frozen? ⟨w.heap.size, 1, none⟩ = false := zfrozen_below (by simp) (by first | (simp; done) | (simp; omega)) hb
      have g2 : w1.frozen? ⟨w.heap.size, 2, none⟩ = false := zfrozen_below (by simp) (by first | (simp; done) | (simp; omega)) hb
      have g3 : w1.frozen? ⟨w.heap.size, 3, none⟩ = false := zfrozen_below (by simp) (by first | (simp; done) | (simp; omega)) hb
      have ac : Below w.heap.size w w1 := Below.next (a := w) (by go_grown) hb
      have AC := Lib.hid ac
      have hz1 : w.heap.size < w1.heap.size := by have hh := hb.size; first | omega | (simp at hh; omega)
      have hg1 : g < w1.heap.size := by
        rcases Nat.lt_or_ge g w1.heap.size with h' | h'
        · exact h'
        · simp [World.cell?, Array.getElem?_eq_none h'] at x0
      have hgn1 : w1.heap.size ≠ g := Nat.ne_of_gt hg1
      clear hb
      go_wp2_with (fail)
      first | (go_region_held3 (fun w' => w'.cell? ⟨g, 0, none⟩ = some (.string p0) ∧ w'.cell? ⟨g, 1, none⟩ = some (.string p1) ∧ w'.cell? ⟨g, 2, none⟩ = some (.string p2) ∧ w'.cell? ⟨g, 3, none⟩ = some (.string p3) ∧ Below w1.heap.size w1 w')
        (first | assumption | (with_reducible exact keep4 (by assumption) (by assumption)) | (with_reducible exact drew4 ⟨x0, x1, x2, x3, Below.refl _ _⟩) | (with_reducible exact ⟨x0, x1, x2, x3, Below.refl _ _⟩) | (with_reducible exact drew4 (qkeepA4 ⟨x0, x1, x2, x3, Below.refl _ _⟩)) | (with_reducible exact qkeepA4 (by assumption)) | (with_reducible exact qkeepS4 hgn1 hgn1 hgn1 hgn1 (Nat.le_refl _) (qkeepS4 hgn1 hgn1 hgn1 hgn1 (Nat.le_refl _) (qkeepS4 hgn1 hgn1 hgn1 hgn1 (Nat.le_refl _) (qkeepS4 hgn1 hgn1 hgn1 hgn1 (Nat.le_refl _) (by assumption))))) | (with_reducible exact qkeepX4 (by assumption) (by assumption) (by assumption) (by assumption) (by assumption) (by assumption)))
        (first
          | (go_at_call 36; (with_reducible refine (HN.out _).mono ?_); rintro e w2 ⟨rfl, hb⟩; (first | (have Y := qfresh hb; obtain ⟨y0, y1, y2, y3, z0, z1, z2, z3⟩ := Y) | skip); have hs2 := hb.size; have hs3 : w1.heap.size ≤ w2.heap.size := (by first | exact hs2 | (simp at hs2; omega)); have hgn : g ≠ w2.heap.size := (by omega); clear hs2))) | fail
      all_goals
        rename_i hH
        have BB := Lib.hid hH.2.2.2.2
        clear hH
        first
          | (have M := Lib.hid (MarkCells.new w2 28 _ rfl v p1 p2 p3)
             have FZ : (w2.alloc (.cells #[.int .i64 v, .string p1, .string p2, .string p3] 28)).frozen? ⟨w2.heap.size, 3, none⟩ = false := by simp
             have hB : w.heap.size < w2.heap.size := Nat.lt_of_lt_of_le hz1 hs3
             generalize (w2.alloc (.cells #[.int .i64 v, .string p1, .string p2, .string p3] 28)) = W at *
             have E0 : W.cell? ⟨w.heap.size, 0, none⟩ = some (.int .i64 0) := cell_below d0 BB.out
             have G0 : W.frozen? ⟨w.heap.size, 0, none⟩ = false := zfrozen_below g0 hz1 BB.out
             have E1 : W.cell? ⟨w.heap.size, 1, none⟩ = some (.string ⟨#[]⟩) := cell_below d1 BB.out
             have G1 : W.frozen? ⟨w.heap.size, 1, none⟩ = false := zfrozen_below g1 hz1 BB.out
             have E2 : W.cell? ⟨w.heap.size, 2, none⟩ = some (.string ⟨#[]⟩) := cell_below d2 BB.out
             have G2 : W.frozen? ⟨w.heap.size, 2, none⟩ = false := zfrozen_below g2 hz1 BB.out
             have E3 : W.cell? ⟨w.heap.size, 3, none⟩ = some (.string ⟨#[]⟩) := cell_below d3 BB.out
             have G3 : W.frozen? ⟨w.heap.size, 3, none⟩ = false := zfrozen_below g3 hz1 BB.out
             have ACW := Lib.hid (AC.out.trans (BB.out.mono AC.out.size))
             have hWS : w.heap.size < W.heap.size := glt4 E0
             have hS := glt4 M.out.1
             clear d0 d1 d2 d3 g0 g1 g2 g3 x0 x1 x2 x3 AC BB hz1 hg1 hgn1
             generalize w2.heap.size = B at *)
          | (have M := Lib.hid (mark_sets y0 y1 y2 y3 v p1 p2 p3)
             have FZ : ((((w2.setCell ⟨w1.heap.size, 0, none⟩ (.int .i64 v)).setCell ⟨w1.heap.size, 1, none⟩ (.string p1)).setCell ⟨w1.heap.size, 2, none⟩ (.string p2)).setCell ⟨w1.heap.size, 3, none⟩ (.string p3)).frozen? ⟨w1.heap.size, 3, none⟩ = false := by simp [z3]
             have hB : w.heap.size < w1.heap.size := hz1
             generalize ((((w2.setCell ⟨w1.heap.size, 0, none⟩ (.int .i64 v)).setCell ⟨w1.heap.size, 1, none⟩ (.string p1)).setCell ⟨w1.heap.size, 2, none⟩ (.string p2)).setCell ⟨w1.heap.size, 3, none⟩ (.string p3)) = W at *
             have E0 : W.cell? ⟨w.heap.size, 0, none⟩ = some (.int .i64 0) := cell_below d0 BB.out
             have G0 : W.frozen? ⟨w.heap.size, 0, none⟩ = false := zfrozen_below g0 hz1 BB.out
             have E1 : W.cell? ⟨w.heap.size, 1, none⟩ = some (.string ⟨#[]⟩) := cell_below d1 BB.out
             have G1 : W.frozen? ⟨w.heap.size, 1, none⟩ = false := zfrozen_below g1 hz1 BB.out
             have E2 : W.cell? ⟨w.heap.size, 2, none⟩ = some (.string ⟨#[]⟩) := cell_below d2 BB.out
             have G2 : W.frozen? ⟨w.heap.size, 2, none⟩ = false := zfrozen_below g2 hz1 BB.out
             have E3 : W.cell? ⟨w.heap.size, 3, none⟩ = some (.string ⟨#[]⟩) := cell_below d3 BB.out
             have G3 : W.frozen? ⟨w.heap.size, 3, none⟩ = false := zfrozen_below g3 hz1 BB.out
             have ACW := Lib.hid (AC.out.trans (BB.out.mono AC.out.size))
             have hWS : w.heap.size < W.heap.size := glt4 E0
             have hS := glt4 M.out.1
             clear d0 d1 d2 d3 g0 g1 g2 g3 x0 x1 x2 x3 AC BB hz1 hg1 hgn1
             clear y0 y1 y2 y3 z0 z1 z2 z3 ac
             generalize w1.heap.size = B at *)
        obtain ⟨m0, m1, m2, m3⟩ := M.out
        have hBne : B ≠ w.heap.size := by omega
        go_wp2_with (fail)
        first
          | (have hh : (p3.toList == ([45] : List UInt8)) = true := h3
             replace E0 : (W.setCell ⟨B, 3, none⟩ (.string ⟨#[]⟩)).cell? ⟨w.heap.size, 0, none⟩ = some (.int .i64 0) := by rw [World.cell?_setCell_far _ _ _ _ hBne]; exact E0
             replace G0 : (W.setCell ⟨B, 3, none⟩ (.string ⟨#[]⟩)).frozen? ⟨w.heap.size, 0, none⟩ = false := by simpa using G0
             replace E1 : (W.setCell ⟨B, 3, none⟩ (.string ⟨#[]⟩)).cell? ⟨w.heap.size, 1, none⟩ = some (.string ⟨#[]⟩) := by rw [World.cell?_setCell_far _ _ _ _ hBne]; exact E1
             replace G1 : (W.setCell ⟨B, 3, none⟩ (.string ⟨#[]⟩)).frozen? ⟨w.heap.size, 1, none⟩ = false := by simpa using G1
             replace E2 : (W.setCell ⟨B, 3, none⟩ (.string ⟨#[]⟩)).cell? ⟨w.heap.size, 2, none⟩ = some (.string ⟨#[]⟩) := by rw [World.cell?_setCell_far _ _ _ _ hBne]; exact E2
             replace G2 : (W.setCell ⟨B, 3, none⟩ (.string ⟨#[]⟩)).frozen? ⟨w.heap.size, 2, none⟩ = false := by simpa using G2
             replace E3 : (W.setCell ⟨B, 3, none⟩ (.string ⟨#[]⟩)).cell? ⟨w.heap.size, 3, none⟩ = some (.string ⟨#[]⟩) := by rw [World.cell?_setCell_far _ _ _ _ hBne]; exact E3
             replace G3 : (W.setCell ⟨B, 3, none⟩ (.string ⟨#[]⟩)).frozen? ⟨w.heap.size, 3, none⟩ = false := by simpa using G3
             replace M := Lib.hid (mark_set M.out ⟨#[]⟩)
             replace ACW := Lib.hid (ACW.out.setCell (p := ⟨B, 3, none⟩) (Nat.le_of_lt hB) (.string ⟨#[]⟩))
             have hWS := glt4 E0
             have hS := glt4 M.out.1
             clear FZ m0 m1 m2 m3 hh
             generalize (W.setCell ⟨B, 3, none⟩ (.string ⟨#[]⟩)) = W2 at *
             obtain ⟨m0, m1, m2, m3⟩ := M.out)
          | skip
        go_wp2_with (first
          | (go_at_call 37; (refine (HK.out _).mono ?_); rintro e w4 ⟨rfl, rfl⟩)
          | (go_at_call 43; (refine (HO.out _ _ M.out).mono ?_); rintro e w4 ⟨rfl, hb4⟩; have M4 := Lib.hid (M.out.below hb4); have E0_4 := cell_below E0 hb4; have G0_4 := zfrozen_below G0 hWS hb4; have E1_4 := cell_below E1 hb4; have G1_4 := zfrozen_below G1 hWS hb4; have E2_4 := cell_below E2 hb4; have G2_4 := zfrozen_below G2 hWS hb4; have E3_4 := cell_below E3 hb4; have G3_4 := zfrozen_below G3 hWS hb4; have ACW4 := Lib.hid (Below.next ACW.out hb4); have hWS4 := glt4 E0_4; obtain ⟨m40, m41, m42, m43⟩ := M4.out; clear hb4)
          | (go_at_call 49; (refine (HT.out _ _ (by first | exact trivial | rfl) M4.out).mono ?_); rintro e w5 ⟨rfl, hb5⟩; have M5 := Lib.hid (M4.out.below hb5); have E0_5 := cell_below E0_4 hb5; have G0_5 := zfrozen_below G0_4 hWS4 hb5; have E1_5 := cell_below E1_4 hb5; have G1_5 := zfrozen_below G1_4 hWS4 hb5; have E2_5 := cell_below E2_4 hb5; have G2_5 := zfrozen_below G2_4 hWS4 hb5; have E3_5 := cell_below E3_4 hb5; have G3_5 := zfrozen_below G3_4 hWS4 hb5; have ACW5 := Lib.hid (Below.next ACW4.out hb5); have hWS5 := glt4 E0_5; obtain ⟨m50, m51, m52, m53⟩ := M5.out; clear hb5))
        first
          | (refine bodyPost_ret (v := .tuple #[.agg #[.int .i64 0, .string ⟨#[]⟩, .string ⟨#[]⟩, .string ⟨#[]⟩], .bool false]) (by simp [results, Tryd.results51, go_sem, *]) rfl ⟨rfl, ?_⟩)
          | (refine bodyPost_ret (v := .tuple #[.agg #[.int .i64 v, .string p1, .string p2, .string p3], .bool true]) (by simp [results, Tryd.results51, go_sem, *]) rfl ⟨rfl, ?_⟩)
          | (refine bodyPost_ret (v := .tuple #[.agg #[.int .i64 v, .string p1, .string p2, .string ⟨#[]⟩], .bool true]) (by simp [results, Tryd.results51, go_sem, *]) rfl ⟨rfl, ?_⟩)
        repeat (refine Below.setCell ?_ (by exact Nat.le_refl _) _)
        first | exact ACW5.out | exact ACW4.out | exact ACW.out
end Go.Proofs.YthheacebafleeaaDoor
