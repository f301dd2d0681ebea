/- Marks in a row of dangers. -/
import Derived.Test.YthccbipjmheoaaaDgrX
import Derived.Test.YthccbipjmheoaaaPts
import Derived.Test.YthccbipjmheoaaaStp
namespace Go.Proofs.Ythccbipjmheoaaa
open Go.ChangeShapes Go.WideShapes Go.ChangeAt Go.RowKit Pm

/-- No block but one has changed. -/
def OnlyD (v : Value) (w w' : World) : Prop := w.heap.size ≤ w'.heap.size ∧ ∀ b, v.ownBlock ≠ some b → b < w.heap.size → w'.heap[b]? = w.heap[b]?
theorem OnlyD.refl (v : Value) (w : World) : OnlyD v w w := ⟨Nat.le_refl _, fun _ _ _ => rfl⟩
theorem OnlyD.below {v : Value} {w w1 w2 : World} (h : OnlyD v w w1) (hb : Below w1.heap.size w1 w2) : OnlyD v w w2 :=
  ⟨Nat.le_trans h.1 hb.size, fun b h1 h2 => by rw [hb.block b (by have := h.1; omega)]; exact h.2 b h1 h2⟩
theorem OnlyD.after {v : Value} {w w1 w2 : World} (hb : Below w.heap.size w w1) (h : OnlyD v w1 w2) : OnlyD v w w2 :=
  ⟨Nat.le_trans hb.size h.1, fun b h1 h2 => by rw [h.2 b h1 (by have := hb.size; omega)]; exact hb.block b h2⟩
theorem OnlyD.put {v : Value} {w w1 : World} {g j : Nat} {u : Value} (h : OnlyD v w w1) (hg : v.ownBlock = some g) : OnlyD v w (w1.setCell ⟨g, j, none⟩ u) :=
  ⟨by have := h.1; simpa [World.setCell] using this, fun b h1 h2 => by
    have hne : g ≠ b := fun e => h1 (by rw [hg, e])
    rw [Below.heap_setCell _ _ _ _ (fun e => hne e.symm)]
    exact h.2 b h1 h2⟩
theorem OnlyD.cell {v x : Value} {w w' : World} {b j : Nat} (h : OnlyD v w w') (hv : v.ownBlock ≠ some b) (hc : w.cell? ⟨b, j, none⟩ = some x) : w'.cell? ⟨b, j, none⟩ = some x := by
  have hlt : b < w.heap.size := World.block_lt_of_cell? _ _ hc
  have := h.2 b hv hlt
  unfold World.cell? at hc ⊢
  simp only at hc ⊢
  rw [this]; exact hc
theorem OnlyD.own {v v2 : Value} {w w' : World} {B2 s n : Nat} {T : TypeId} {xs : List Value} (h : OnlyD v w w') (hv : ∀ g, v.ownBlock = some g → g < B2) (ho : w.ownsRow B2 T s v2 n xs) : w'.ownsRow B2 T s v2 n xs := by
  refine ⟨ho.1, ?_⟩
  rcases ho.2 with h2 | ⟨g, cap, cur, h1, h3, h4, h5⟩
  · exact .inl h2
  · refine .inr ⟨g, cap, cur, h1, h3, ?_, h5⟩
    have hlt : g < w.heap.size := by
      rcases Nat.lt_or_ge g w.heap.size with h' | h'
      · exact h'
      · rw [Array.getElem?_eq_none h'] at h4; cases h4
    rw [h.2 g (fun e => by have := hv g e; omega) hlt]; exact h4
theorem dgown_block {w : World} {B s n : Nat} {T : TypeId} {v : Value} {xs : List Value} (h : w.ownsRow B T s v n xs) : ∀ g, v.ownBlock = some g → B ≤ g ∧ g < w.heap.size := by
  intro g hg
  rcases h.2 with ⟨rfl, _⟩ | ⟨g2, cap, cur, rfl, h3, h4, h5⟩
  · cases hg
  · have e : g2 = g := by simpa [Value.ownBlock] using hg
    subst e
    rcases Nat.lt_or_ge g2 w.heap.size with h' | h'
    · exact ⟨h3, h'⟩
    · rw [Array.getElem?_eq_none h'] at h4; cases h4
theorem dgown_form {w : World} {B : Nat} {E : TypeId} {v : Value} {n : Nat} {xs : List Value} (h : w.ownsRow B E 4 v n xs) :
    (v = .slice none 0 0 ∧ n = 0) ∨ ∃ g cap, v = .slice (some ⟨g, 0, none⟩) n cap ∧ B ≤ g := by
  rcases h.2 with ⟨h1, h2⟩ | ⟨g, cap, cur, h1, h3, _⟩
  · exact .inl ⟨h1, by simpa using h2⟩
  · exact .inr ⟨g, cap, h1, h3⟩
theorem marktext_int (c : Int) (w : World) (h0 : 1 ≤ c) (h1 : c ≤ 4194304) :
    Calls Try.prog 65 #[.int .i64 c] w fun e w' => e = .returned (.string (mtext c.toNat)) ∧ Below w.heap.size w w' := by
  have h := marktext_any c.toNat w (by omega) (by omega)
  rw [show ((c.toNat : Nat) : Int) = c by omega] at h
  exact h
set_option maxRecDepth 100000 in
set_option maxHeartbeats 4000000 in
theorem markdg_any (v : Value) (n : Nat) (xs : List Value) (B : Nat) (w : World) (hB0 : B ≤ w.heap.size) (hn : n ≤ 1048576) (ho : w.ownsRow B 44 4 v n xs) :
    Calls Try.prog 30 #[v, .int .i64 1] w (fun e w' => e = .returned (.int .i64 (1 + 4 * (n : Int))) ∧ Below B w w' ∧ OnlyD v w w') := by
  rcases dgown_form ho with ⟨rfl, rfl⟩ | ⟨g, cap, rfl, hB⟩
  · have HO := Lib.hid ho
    clear ho
    go_enter Try.func30, Try.ntmps30
    go_wp2
    go_rounds 1
    go_ret
    exact ⟨by simp, Below.refl _ _, OnlyD.refl _ _⟩
  · have HO := Lib.hid ho
    clear ho
    go_enter Try.func30, Try.ntmps30
    go_wp2
    go_loopw [1, 5] (fun q i wr => ∃ (j : Nat) (ys : List Value) (c : Int), j ≤ n ∧ i = .int .i64 j ∧ q = .int .i64 c ∧ c = 1 + 4 * (j : Int) ∧ wr.ownsRow B 44 4 (.slice (some ⟨g, 0, none⟩) n cap) n ys ∧ Below B w wr ∧ OnlyD (.slice (some ⟨g, 0, none⟩) n cap) w wr) (fun _ i _ => n - (intOf i).toNat)
    case atStart => exact ⟨0, xs, 1, Nat.zero_le _, rfl, rfl, by simp, HO.out, Below.refl _ _, OnlyD.refl _ _⟩
    case round =>
      obtain ⟨j, ys, c, hj, rfl, rfl, hc, hown, hbel, hon⟩ := hrel
      have HON := Lib.hid hon
      clear hon
      have HOW := Lib.hid hown
      have HBR := Lib.hid hbel
      have HCC := Lib.hid hc
      have hc1 : 1 ≤ c := by omega
      have hc2 : c ≤ 4194305 := by omega
      clear hown hbel
      by_cases hlt : j < n
      · have hc3 : c ≤ 4194301 := by omega
        have HM := Lib.hid (fun w => marktext_int c w hc1 (by omega))
        generalize mtext c.toNat = u at *
        have hjn : (j : Int) < (n : Int) := by omega
        clear hc
        go_wp2_with (go_at_call 65; refine (HM.out _).mono ?_; rintro e w2 ⟨rfl, hb2⟩; refine Hid.out ?_)
        refine Lib.hid ?_
        have hown := own_below2 HOW.out hb2
        have hbel := HBR.out.trans (hb2.mono (Nat.le_trans hB0 HBR.out.size))
        have hyl : ys.length = n * 4 := by have := hown.1; omega
        obtain ⟨z0, o0⟩ : ∃ z, w2.cell? ⟨g, j * 4, none⟩ = some z := ⟨_, (hown.cellAt (j * 4) (by omega)).trans (List.getElem?_eq_getElem (by omega))⟩
        obtain ⟨z1, o1⟩ : ∃ z, w2.cell? ⟨g, j * 4 + 1, none⟩ = some z := ⟨_, (hown.cellAt (j * 4 + 1) (by omega)).trans (List.getElem?_eq_getElem (by omega))⟩
        obtain ⟨z2, o2⟩ : ∃ z, w2.cell? ⟨g, j * 4 + 2, none⟩ = some z := ⟨_, (hown.cellAt (j * 4 + 2) (by omega)).trans (List.getElem?_eq_getElem (by omega))⟩
        obtain ⟨z3, o3⟩ : ∃ z, w2.cell? ⟨g, j * 4 + 3, none⟩ = some z := ⟨_, (hown.cellAt (j * 4 + 3) (by omega)).trans (List.getElem?_eq_getElem (by omega))⟩
        have f0 := hown.frozenAt (j * 4)
        have f1 := hown.frozenAt (j * 4 + 1)
        have f2 := hown.frozenAt (j * 4 + 2)
        have f3 := hown.frozenAt (j * 4 + 3)
        have HST := Lib.hid ((((hown.stored (j * 4) (.string u)).1.stored (j * 4 + 1) (.int .i64 (c + 1))).1.stored (j * 4 + 2) (.int .i64 (c + 1 + 1))).1.stored (j * 4 + 3) (.int .i64 (c + 1 + 1 + 1))).1
        have HB2 := Lib.hid ((((hbel.setCell (p := ⟨g, j * 4, none⟩) hB (.string u)).setCell (p := ⟨g, j * 4 + 1, none⟩) hB (.int .i64 (c + 1))).setCell (p := ⟨g, j * 4 + 2, none⟩) hB (.int .i64 (c + 1 + 1))).setCell (p := ⟨g, j * 4 + 3, none⟩) hB (.int .i64 (c + 1 + 1 + 1)))
        have HN2 := Lib.hid ((((((HON.out.below hb2).put (g := g) (j := j * 4) (u := .string u) rfl).put (g := g) (j := j * 4 + 1) (u := .int .i64 (c + 1)) rfl).put (g := g) (j := j * 4 + 2) (u := .int .i64 (c + 1 + 1)) rfl).put (g := g) (j := j * 4 + 3) (u := .int .i64 (c + 1 + 1 + 1)) rfl))
        clear hown hbel hb2 HM
        go_wp2
        go_roundw
        case rel => exact ⟨j + 1, _, c + 1 + 1 + 1 + 1, by omega, by go_num, by go_num, by have := HCC.out; omega, HST.out, HB2.out, HN2.out⟩
        case measure => simp [intOf]; omega
      · obtain rfl : j = n := by omega
        clear hc
        go_wp2
        go_ret
        exact ⟨by rw [← HCC.out]; first | rfl | simp, HBR.out, HON.out⟩
end Go.Proofs.Ythccbipjmheoaaa
