/- Rows of buoys: how they read, a law's own words on them (size, copy, comparison). -/
import Derived.Test.YtcoldhdghcdaeaaClx
import Derived.Test.YtcoldhdghcdaeaaOk
import Derived.OwnWalk
import Derived.Laws.OwnMore
import Derived.WalkSmall
namespace Go.Proofs.Ytcoldhdghcdaeaa
open Go.ChangeShapes Go.WideShapes Go.ChangeAt Go.RowKit Pm

/-- A buoy: from, to, its color's bytes. -/
abbrev Buy := Int × Int × Int
def buy0 : Buy := (0, 0, 0)
/-- The cells of a list of buoys. -/
def buyV (ps : List Buy) : List Value := ps.flatMap fun p => [.int .i64 p.1, .int .i64 p.2.1, .int .i64 p.2.2]
theorem buyV_len (ps : List Buy) : (buyV ps).length = ps.length * 3 := by
  induction ps with
  | nil => rfl
  | cons p ps ih => simp only [buyV, List.flatMap_cons, List.length_append, List.length_cons, List.length_nil] at *; omega
theorem buyV_app (ps qs : List Buy) : buyV (ps ++ qs) = buyV ps ++ buyV qs := by simp [buyV]
theorem buyV_at : ∀ (ps : List Buy) (i : Nat), i < ps.length → (buyV ps)[i * 3]? = some (.int .i64 (ps.getD i buy0).1) ∧ (buyV ps)[i * 3 + 1]? = some (.int .i64 (ps.getD i buy0).2.1) ∧ (buyV ps)[i * 3 + 2]? = some (.int .i64 (ps.getD i buy0).2.2)
  | [], _, h => by simp at h
  | p :: ps, 0, _ => ⟨rfl, rfl, rfl⟩
  | p :: ps, i + 1, h => by
    have := buyV_at ps i (by simpa using h)
    rw [show (i + 1) * 3 = i * 3 + 3 by omega]
    simpa [buyV] using this
theorem buy_getD (ps : List Buy) (i : Nat) (h : i < ps.length) : ps.getD i buy0 = ps[i] := by simp [h]
theorem buy_take (ps : List Buy) (k : Nat) (h : k < ps.length) : ps.take (k + 1) = ps.take k ++ [ps.getD k buy0] := by
  rw [List.take_succ_eq_append_getElem h]; simp [h]

/-- A slice that reads as buoys: it is empty, wherever it leads, or a row of cells. -/
def ArgBuy (w : World) (a : Option Addr) (n : Nat) (ps : List Buy) : Prop :=
  n = ps.length ∧ (ps = [] ∨ ∃ b off, a = some ⟨b, off, none⟩ ∧ ∀ i, i < ps.length → w.cell? ⟨b, off + i * 3, none⟩ = some (.int .i64 (ps.getD i buy0).1) ∧ w.cell? ⟨b, off + i * 3 + 1, none⟩ = some (.int .i64 (ps.getD i buy0).2.1) ∧ w.cell? ⟨b, off + i * 3 + 2, none⟩ = some (.int .i64 (ps.getD i buy0).2.2))
theorem ArgBuy.below {w w' : World} {a : Option Addr} {n : Nat} {ps : List Buy} (h : ArgBuy w a n ps) (hb : Below w.heap.size w w') : ArgBuy w' a n ps := by
  obtain ⟨h0, h⟩ := h
  refine ⟨h0, ?_⟩
  rcases h with h | ⟨b, off, h1, h2⟩
  · exact .inl h
  · exact .inr ⟨b, off, h1, fun i hi => ⟨cell_below (h2 i hi).1 hb, cell_below (h2 i hi).2.1 hb, cell_below (h2 i hi).2.2 hb⟩⟩
theorem ArgBuy.drewN {w : World} {a : Option Addr} {n : Nat} {ps : List Buy} (h : ArgBuy w a n ps) (m : Nat) : ArgBuy (w.drewN m) a n ps := h.below (below_drewN (Below.refl _ _) m)
theorem ArgBuy.drew {w : World} {a : Option Addr} {n : Nat} {ps : List Buy} (h : ArgBuy w a n ps) : ArgBuy w.drew a n ps := h.below (Below.refl _ _).drew
/-- A slice as a value. -/
def BuyAre (w : World) (sv : Value) (ps : List Buy) : Prop := ∃ a c, sv = .slice a ps.length c ∧ ArgBuy w a ps.length ps
theorem BuyAre.below {w w' : World} {v : Value} {ps : List Buy} (h : BuyAre w v ps) (hb : Below w.heap.size w w') : BuyAre w' v ps := by
  obtain ⟨a, c, rfl, h⟩ := h
  exact ⟨a, c, rfl, h.below hb⟩
theorem BuyAre.none (w : World) : BuyAre w (.slice none 0 0) [] := ⟨_, _, rfl, rfl, .inl rfl⟩

theorem buyinfo_parts {t : TypeId} {z : Value} {s b : Nat} (h : (Try.prog.info? t).map (fun i => (i.zero, i.size, i.bytes)) = some (some z, s, b)) :
    ∃ i, Try.prog.info? t = some i ∧ i.zero = some z ∧ i.size = s ∧ i.bytes = b := by
  cases hi : Try.prog.info? t with
  | none => rw [hi] at h; cases h
  | some i => rw [hi] at h; simp at h; exact ⟨i, rfl, h.1, h.2.1, h.2.2⟩
theorem infoBuy : (Try.prog.info? 83).map (fun i => (i.zero, i.size, i.bytes)) = some (some (.agg #[.int .i64 0, .int .i64 0, .int .i64 0]), 3, 24) := by kernel_rfl

/-- An owned row of buoys. -/
def OwnBuy (w : World) (B : Nat) (v : Value) (ps : List Buy) : Prop := w.ownsRow B 83 3 v ps.length (buyV ps)
theorem OwnBuy.below {w w' : World} {B : Nat} {v : Value} {ps : List Buy} (h : OwnBuy w B v ps) (hb : Below w.heap.size w w') : OwnBuy w' B v ps := by
  refine ⟨h.1, ?_⟩
  rcases h.2 with h2 | ⟨g, cap, cur, h1, h3, h4, h5⟩
  · exact .inl h2
  · refine .inr ⟨g, cap, cur, h1, h3, ?_, h5⟩
    have hlt : g < w.heap.size := by
      rcases Nat.lt_or_ge g w.heap.size with h' | h'
      · exact h'
      · rw [Array.getElem?_eq_none h'] at h4; cases h4
    rw [hb.block g hlt]; exact h4
theorem OwnBuy.mono {w : World} {B B' : Nat} {v : Value} {ps : List Buy} (h : OwnBuy w B v ps) (hB : B' ≤ B) : OwnBuy w B' v ps := by
  refine ⟨h.1, ?_⟩
  rcases h.2 with h2 | ⟨g, cap, cur, h1, h3, h4⟩
  · exact .inl h2
  · exact .inr ⟨g, cap, cur, h1, Nat.le_trans hB h3, h4⟩
theorem OwnBuy.none (w : World) (B : Nat) : OwnBuy w B (.slice none 0 0) [] := ⟨rfl, .inl ⟨rfl, rfl⟩⟩
theorem OwnBuy.drew {w : World} {B : Nat} {v : Value} {ps : List Buy} (h : OwnBuy w B v ps) : OwnBuy w.drew B v ps := h.below (Below.refl _ _).drew
theorem OwnBuy.drewN {w : World} {B : Nat} {v : Value} {ps : List Buy} (h : OwnBuy w B v ps) (m : Nat) : OwnBuy (w.drewN m) B v ps := h.below (below_drewN (Below.refl _ _) m)
theorem OwnBuy.are {w : World} {B : Nat} {v : Value} {ps : List Buy} (h : OwnBuy w B v ps) : BuyAre w v ps := by
  by_cases h0 : ps.length = 0
  · have hnil : ps = [] := List.length_eq_zero_iff.1 h0
    subst hnil
    rcases h.2 with ⟨h1, _⟩ | ⟨g, cap, cur, h1, _⟩
    · exact ⟨_, 0, h1, rfl, .inl rfl⟩
    · exact ⟨_, cap, h1, rfl, .inl rfl⟩
  · obtain ⟨g, cap, hv⟩ : ∃ g cap, v = .slice (some ⟨g, 0, Option.none⟩) ps.length cap := by
      rcases h.2 with ⟨_, hz⟩ | ⟨g, cap, _, hv, _⟩
      · exact absurd hz h0
      · exact ⟨g, cap, hv⟩
    subst hv
    refine ⟨_, cap, rfl, rfl, .inr ⟨g, 0, rfl, fun i hi => ?_⟩⟩
    obtain ⟨v0, v1, v2⟩ := buyV_at ps i hi
    have h' : w.ownsRow B 83 3 (.slice (some ⟨g, 0, Option.none⟩) ps.length cap) ps.length (buyV ps) := h
    rw [Nat.zero_add]
    exact ⟨(h'.cellAt (i * 3) (by omega)).trans v0, (h'.cellAt (i * 3 + 1) (by omega)).trans v1, (h'.cellAt (i * 3 + 2) (by omega)).trans v2⟩
theorem OwnBuy.form {w : World} {B : Nat} {v : Value} {ps : List Buy} (h : OwnBuy w B v ps) : (v = .slice Option.none 0 0 ∧ ps = []) ∨ ∃ g cap, v = .slice (some ⟨g, 0, Option.none⟩) ps.length cap ∧ B ≤ g := by
  rcases h.2 with ⟨h1, h2⟩ | ⟨g, cap, cur, h1, h3, _⟩
  · exact .inl ⟨h1, List.length_eq_zero_iff.1 (by simpa using h2)⟩
  · exact .inr ⟨g, cap, h1, h3⟩

/-- So far k cells of a row are these. -/
def BuyUpto (xs : List Value) (k : Nat) (ys : List Value) : Prop := xs.length = ys.length ∧ ∀ j, j < k → xs[j]? = ys[j]?
theorem BuyUpto.step {xs ys : List Value} {k : Nat} (h : BuyUpto xs k ys) (hk : k < ys.length) {u : Value} (hu : ys[k]? = some u) : BuyUpto (xs.set k u) (k + 1) ys := by
  refine ⟨by simpa using h.1, fun j hj => ?_⟩
  rw [List.getElem?_set]
  by_cases e : k = j
  · subst e
    rw [if_pos rfl, if_pos (by rw [h.1]; exact hk), hu]
  · rw [if_neg e]; exact h.2 j (by omega)
theorem BuyUpto.all {xs ys : List Value} (h : BuyUpto xs ys.length ys) : xs = ys := by
  apply List.ext_getElem?
  intro j
  by_cases hj : j < ys.length
  · exact h.2 j hj
  · rw [List.getElem?_eq_none (by rw [h.1]; omega), List.getElem?_eq_none (by omega)]

theorem tobuy_any (f t s : Int) (w : World) :
    Calls Try.prog 62 #[.agg #[.int .i64 f, .int .i64 t, .int .i64 s]] w fun e w' => e = .returned (.agg #[.int .i64 f, .int .i64 t, .int .i64 s]) ∧ Below w.heap.size w w' := by
  go_enter Try.func62, Try.ntmps62
  go_wp2_with (go_at_call 24; go_in)
  go_returns
  exact ⟨rfl, by go_grown⟩
theorem eqbuy_any (f t s : Int) (w : World) :
    Calls Try.prog 66 #[.agg #[.int .i64 f, .int .i64 t, .int .i64 s], .agg #[.int .i64 f, .int .i64 t, .int .i64 s]] w fun e w' => e = .returned (.bool true) ∧ Below w.heap.size w w' := by
  go_enter Try.func66, Try.ntmps66
  go_wp2_with (go_at_call 22; go_in)
  go_ret
  exact ⟨rfl, by go_grown⟩
/-- What is left of a size behind a list of n. -/
def SzN (n : Nat) (left r : Int) : Prop := r = -1 ∨ (0 ≤ r ∧ r ≤ left ∧ (n : Int) ≤ left)
theorem szbuys_any (a : Option Addr) (n c : Nat) (left : Int) (w : World) (hm : n ≤ maxLen) (h0 : 0 ≤ left) (h1 : left ≤ 1048576) :
    Calls Try.prog 28 #[.slice a n c, .int .i64 left] w fun e w' => ∃ r, SzN n left r ∧ e = .returned (.int .i64 r) ∧ Below w.heap.size w w' := by
  unfold maxLen at hm
  by_cases h : left < (n : Int)
  · have h2 : left - (n : Int) < 0 := by omega
    go_enter Try.func28, Try.ntmps28
    go_wp2
    go_ret
    exact ⟨-1, .inl rfl, rfl, by go_grown⟩
  · have h2 : ¬ left - (n : Int) < 0 := by omega
    go_enter Try.func28, Try.ntmps28
    go_wp2
    go_ret
    exact ⟨_, .inr ⟨by omega, by omega, by omega⟩, rfl, by go_grown⟩

/-- A copy of a list of buoys in memory of its own. -/
def CopyBuy (ps : List Buy) (w : World) (e : Ending) (w' : World) : Prop := ∃ v, e = .returned v ∧ OwnBuy w' w.heap.size v ps ∧ Below w.heap.size w w'
theorem tobuys_nil (a : Option Addr) (c : Nat) (w : World) :
    Calls Try.prog 30 #[.slice a 0 c] w (CopyBuy [] w) := by
  obtain ⟨i0, hi, hz0, hz1, hz2⟩ := buyinfo_parts infoBuy
  go_enter Try.func30, Try.ntmps30
  go_wp2_with (at_make; refine wpList_make_full _ rfl _ _ 50 rfl w.heap.size 83 i0 (.agg #[.int .i64 0, .int .i64 0, .int .i64 0]) 3 Try.underlying50 hi hz0 hz1 _ _ _ _ 0 rfl rfl rfl rfl (by omega) (by unfold maxLen; omega) (Nat.le_refl _) ?_)
  intro w1 hown hg
  have hb : Below w.heap.size w w1 := (Below.refl _ _).grown hg (Nat.le_refl _) (fun k hk => by cases hk)
  have HO := Lib.hid hown
  have HB := Lib.hid hb
  clear hown hg hb
  go_wp2
  go_rounds 1
  go_ret
  have e : (madeCells #[Value.int .i64 0, Value.int .i64 0, Value.int .i64 0] 0).toList = ([] : List Value) := List.length_eq_zero_iff.1 (by have := HO.out.1; simpa using this)
  exact ⟨_, rfl, by have h := HO.out; rw [e] at h; exact h, HB.out⟩

set_option maxHeartbeats 1000000 in
theorem tobuys_row (b off cap : Nat) (ps : List Buy) (w : World) (hn : ps.length ≤ 1048576)
    (hc : ∀ i, i < ps.length → w.cell? ⟨b, off + i * 3, none⟩ = some (.int .i64 (ps.getD i buy0).1) ∧ w.cell? ⟨b, off + i * 3 + 1, none⟩ = some (.int .i64 (ps.getD i buy0).2.1) ∧ w.cell? ⟨b, off + i * 3 + 2, none⟩ = some (.int .i64 (ps.getD i buy0).2.2)) :
    Calls Try.prog 30 #[.slice (some ⟨b, off, none⟩) ps.length cap] w (CopyBuy ps w) := by
  obtain ⟨i0, hi, hz0, hz1, hz2⟩ := buyinfo_parts infoBuy
  have HC := Lib.hid hc
  clear hc
  go_enter Try.func30, Try.ntmps30
  go_wp2_with (at_make; refine wpList_make_full _ rfl _ _ 50 rfl w.heap.size 83 i0 (.agg #[.int .i64 0, .int .i64 0, .int .i64 0]) 3 Try.underlying50 hi hz0 hz1 _ _ _ _ ps.length rfl rfl rfl rfl (by rw [hz2]; omega) (by unfold maxLen; omega) (Nat.le_refl _) ?_)
  intro w1 hown hg
  have hb : Below w.heap.size w w1 := (Below.refl _ _).grown hg (Nat.le_refl _) (fun k hk => by cases hk)
  obtain ⟨xs0, hx0⟩ : ∃ xs0, xs0 = (madeCells #[Value.int .i64 0, Value.int .i64 0, Value.int .i64 0] (ps.length * 3)).toList := ⟨_, rfl⟩
  rw [← hx0] at hown
  have hl0 : xs0.length = ps.length * 3 := by have := hown.1; omega
  have HO := Lib.hid hown
  have HB := Lib.hid hb
  clear hown hg hb hx0
  go_wp2_with (fail)
  go_loopw [4] (fun i wr => ∃ (k : Nat) (xs : List Value), k ≤ ps.length ∧ i = .int .i64 k ∧ BuyUpto xs (k * 3) (buyV ps) ∧ wr.ownsRow w.heap.size 83 3 (.slice (some ⟨w.heap.size, 0, none⟩) ps.length ps.length) ps.length xs ∧ Below w.heap.size w wr) (fun i _ => ps.length - (intOf i).toNat)
  case atStart => exact ⟨0, xs0, Nat.zero_le _, rfl, ⟨by rw [buyV_len]; exact hl0, fun j hj => by omega⟩, HO.out, HB.out⟩
  case round =>
    obtain ⟨k, xs, hk, rfl, hup, hown, hbel⟩ := hrel
    have HU := Lib.hid hup
    have HOW := Lib.hid hown
    have HBE := Lib.hid hbel
    clear hup hown
    by_cases hlt : k < ps.length
    · have c0 := cell_below (HC.out k hlt).1 hbel
      have c1 := cell_below (HC.out k hlt).2.1 hbel
      have c2 := cell_below (HC.out k hlt).2.2 hbel
      obtain ⟨v0, v1, v2⟩ := buyV_at ps k hlt
      have hlen := buyV_len ps
      have u1 := HU.out.step (u := .int .i64 (ps.getD k buy0).1) (by omega) v0
      have u2 := u1.step (u := .int .i64 (ps.getD k buy0).2.1) (by omega) v1
      have u3 := u2.step (u := .int .i64 (ps.getD k buy0).2.2) (by omega) v2
      generalize (ps.getD k buy0).1 = x at *
      generalize (ps.getD k buy0).2.1 = y at *
      generalize (ps.getD k buy0).2.2 = s at *
      have HU2 := Lib.hid u3
      clear u1 u2 u3 v0 v1 v2 hbel hlen
      have hkn : (k : Int) < (ps.length : Int) := by omega
      go_wp2_with (go_at_call 62; refine (tobuy_any _ _ _ _).mono ?_; rintro e w2 ⟨rfl, hb⟩; refine Hid.out ?_)
      refine Lib.hid ?_
      have ho2 : w2.ownsRow w.heap.size 83 3 (.slice (some ⟨w.heap.size, 0, none⟩) ps.length ps.length) ps.length xs := by
        refine ⟨HOW.out.1, ?_⟩
        rcases HOW.out.2 with h2 | ⟨g, cap, cur, h1, h3, h4, h5⟩
        · exact .inl h2
        · refine .inr ⟨g, cap, cur, h1, h3, ?_, h5⟩
          have hlt : g < wr.heap.size := by
            rcases Nat.lt_or_ge g wr.heap.size with h' | h'
            · exact h'
            · rw [Array.getElem?_eq_none h'] at h4; cases h4
          rw [hb.block g hlt]; exact h4
      have hb2 := HBE.out.trans (hb.mono HBE.out.size)
      have hxl : xs.length = ps.length * 3 := by have := HU.out.1; rw [buyV_len] at this; exact this
      obtain ⟨z0, o0⟩ : ∃ z, w2.cell? ⟨w.heap.size, k * 3, none⟩ = some z := ⟨_, (ho2.cellAt (k * 3) (by omega)).trans (List.getElem?_eq_getElem (by omega))⟩
      obtain ⟨z1, o1⟩ : ∃ z, w2.cell? ⟨w.heap.size, k * 3 + 1, none⟩ = some z := ⟨_, (ho2.cellAt (k * 3 + 1) (by omega)).trans (List.getElem?_eq_getElem (by omega))⟩
      obtain ⟨z2, o2⟩ : ∃ z, w2.cell? ⟨w.heap.size, k * 3 + 2, none⟩ = some z := ⟨_, (ho2.cellAt (k * 3 + 2) (by omega)).trans (List.getElem?_eq_getElem (by omega))⟩
      have f0 := ho2.frozenAt (k * 3)
      have f1 := ho2.frozenAt (k * 3 + 1)
      have f2 := ho2.frozenAt (k * 3 + 2)
      have HST := Lib.hid (((ho2.stored (k * 3) (.int .i64 x)).1.stored (k * 3 + 1) (.int .i64 y)).1.stored (k * 3 + 2) (.int .i64 s)).1
      have HB2 := Lib.hid (((hb2.setCell (p := ⟨w.heap.size, k * 3, none⟩) (Nat.le_refl _) (.int .i64 x)).setCell (p := ⟨w.heap.size, k * 3 + 1, none⟩) (Nat.le_refl _) (.int .i64 y)).setCell (p := ⟨w.heap.size, k * 3 + 2, none⟩) (Nat.le_refl _) (.int .i64 s))
      clear hb ho2 hb2 c0 c1 c2 hxl
      go_wp2_with (fail)
      go_roundw
      case rel => exact ⟨k + 1, _, by omega, by go_num, by rw [show (k + 1) * 3 = k * 3 + 1 + 1 + 1 by omega]; exact HU2.out, HST.out, HB2.out⟩
      case measure => simp [intOf]; omega
    · obtain rfl : k = ps.length := by omega
      have hx : xs = buyV ps := by
        have h := HU.out
        rw [← buyV_len] at h
        exact h.all
      have HOX := Lib.hid (hx ▸ HOW.out)
      clear hbel hx
      go_wp2
      go_ret
      exact ⟨_, rfl, HOX.out, HBE.out⟩
theorem tobuys_any (a : Option Addr) (n c : Nat) (ps : List Buy) (w : World) (h : ArgBuy w a n ps) (hn : ps.length ≤ 1048576) :
    Calls Try.prog 30 #[.slice a n c] w (CopyBuy ps w) := by
  obtain ⟨rfl, h⟩ := h
  rcases h with rfl | ⟨b, off, rfl, h2⟩
  · exact tobuys_nil a c w
  · exact tobuys_row b off c ps w hn h2

/-- Worlds with six cells. -/
theorem clx6 {w0 w : World} {a0 a1 a2 a3 a4 a5 : Addr} {v0 v1 v2 v3 v4 v5 : Value} (h0 : w.cell? a0 = some v0) (h1 : w.cell? a1 = some v1) (h2 : w.cell? a2 = some v2) (h3 : w.cell? a3 = some v3) (h4 : w.cell? a4 = some v4) (h5 : w.cell? a5 = some v5) (hB : Below w0.heap.size w0 w) :
    ∃ S : World → Prop, (∀ w1 w2, S w1 → Below w1.heap.size w1 w2 → S w2) ∧ S w.drew ∧ (∀ p : Clx S, p.v.cell? a0 = some v0) ∧ (∀ p : Clx S, p.v.cell? a1 = some v1) ∧ (∀ p : Clx S, p.v.cell? a2 = some v2) ∧ (∀ p : Clx S, p.v.cell? a3 = some v3) ∧ (∀ p : Clx S, p.v.cell? a4 = some v4) ∧ (∀ p : Clx S, p.v.cell? a5 = some v5) ∧ ∀ p : Clx S, Below w0.heap.size w0 p.v :=
  ⟨fun w' => w'.cell? a0 = some v0 ∧ w'.cell? a1 = some v1 ∧ w'.cell? a2 = some v2 ∧ w'.cell? a3 = some v3 ∧ w'.cell? a4 = some v4 ∧ w'.cell? a5 = some v5 ∧ Below w0.heap.size w0 w', fun _ _ h hb => keep6 hb h, drew6 ⟨h0, h1, h2, h3, h4, h5, hB⟩, fun p => p.h.1, fun p => p.h.2.1, fun p => p.h.2.2.1, fun p => p.h.2.2.2.1, fun p => p.h.2.2.2.2.1, fun p => p.h.2.2.2.2.2.1, fun p => p.h.2.2.2.2.2.2⟩
theorem eqbuys_at (a1 a2 : Option Addr) (c1 c2 : Nat) (ps : List Buy) (w : World) (hn : ps.length ≤ 1048576) (h1 : ArgBuy w a1 ps.length ps) (h2 : ArgBuy w a2 ps.length ps) :
    Calls Try.prog 32 #[.slice a1 ps.length c1, .slice a2 ps.length c2] w fun e w' => e = .returned (.bool true) ∧ Below w.heap.size w w' := by
  by_cases h0 : ps.length = 0
  · have hnil : ps = [] := List.length_eq_zero_iff.1 h0
    subst hnil
    clear h1 h2 h0
    go_enter Try.func32, Try.ntmps32
    go_wp2
    go_rounds 1
    go_ret
    exact ⟨rfl, Below.refl _ _⟩
  · obtain ⟨b, off, rfl, H1⟩ := h1.2.resolve_left (by intro e; rw [e] at h0; exact h0 rfl)
    obtain ⟨b', off', rfl, H2⟩ := h2.2.resolve_left (by intro e; rw [e] at h0; exact h0 rfl)
    have HC := Lib.hid H1
    have HD := Lib.hid H2
    clear H1 H2 h0 h1 h2
    go_enter Try.func32, Try.ntmps32
    go_wp2_with (fail)
    go_loopw [5] (fun i wr => ∃ k : Nat, k ≤ ps.length ∧ i = .int .i64 k ∧ Below w.heap.size w wr) (fun i _ => ps.length - (intOf i).toNat)
    case atStart => exact ⟨0, Nat.zero_le _, rfl, by go_grown⟩
    case round =>
      obtain ⟨k, hk, rfl, hbel⟩ := hrel
      by_cases hlt : k < ps.length
      · have hkn : (k : Int) < (ps.length : Int) := by omega
        have e0 := cell_below (HC.out k hlt).1 hbel
        have e1 := cell_below (HC.out k hlt).2.1 hbel
        have e2 := cell_below (HC.out k hlt).2.2 hbel
        have e3 := cell_below (HD.out k hlt).1 hbel
        have e4 := cell_below (HD.out k hlt).2.1 hbel
        have e5 := cell_below (HD.out k hlt).2.2 hbel
        generalize (ps.getD k buy0).1 = x at *
        generalize (ps.getD k buy0).2.1 = y at *
        generalize (ps.getD k buy0).2.2 = s at *
        have HE := Lib.hid (fun w' => eqbuy_any x y s w')
        go_wp2_with (fail)
        obtain ⟨S, hcl, hS0, k0, k1, k2, k3, k4, k5, kB⟩ := clx6 e0 e1 e2 e3 e4 e5 hbel
        have hne : Nonempty (Clx S) := ⟨⟨_, hS0⟩⟩
        clear e0 e1 e2 e3 e4 e5 hbel
        refine wp_region_clx S (by kernel_rfl) (by kernel_rfl) hS0 ?_
        repeat (go_big_quiet_step ((go_at_call 66; exact Clx.call hcl _ (HE.out _))))
        refine wpQuiet_nil ?_
        intro _ hw'
        obtain ⟨p, rfl⟩ := hw'
        have HB2 := Lib.hid (kB p)
        clear hS0 kB k0 k1 k2 k3 k4 k5 hne hcl
        go_wp2_with (fail)
        go_roundw
        case rel => exact ⟨k + 1, by omega, by go_num, HB2.out⟩
        case measure => simp [intOf]; omega
      · have hge : ¬ (k : Int) < (ps.length : Int) := by omega
        have HBE := Lib.hid hbel
        clear hbel
        go_wp2
        go_ret
        exact ⟨rfl, HBE.out⟩
theorem eqbuys_same (v1 v2 : Value) (ps : List Buy) (w : World) (hn : ps.length ≤ 1048576) (h1 : BuyAre w v1 ps) (h2 : BuyAre w v2 ps) :
    Calls Try.prog 32 #[v1, v2] w fun e w' => e = .returned (.bool true) ∧ Below w.heap.size w w' := by
  obtain ⟨a1, c1, rfl, h1⟩ := h1
  obtain ⟨a2, c2, rfl, h2⟩ := h2
  exact eqbuys_at a1 a2 c1 c2 ps w hn h1 h2
end Go.Proofs.Ytcoldhdghcdaeaa
