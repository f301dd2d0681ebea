/- Rows of dangers: how they read, a law's own words on them (size, copy, comparison). A valid danger: pure, the program's test, the model's. -/
import Derived.Test.YthccbipjmheoaaaClx
import Derived.Test.YthccbipjmheoaaaOk
import Derived.OwnWalk
import Derived.Laws.OwnMore
import Derived.WalkSmall
import Derived.Test.YthccbipjmheoaaaNam2
import Derived.Test.YthccbipjmheoaaaAre
import Derived.Test.YthccbipjmheoaaaWithin
namespace Go.Proofs.Ythccbipjmheoaaa
open Go.ChangeShapes Go.WideShapes Go.ChangeAt Go.RowKit Pm

/-- A danger: name, place, radius. -/
abbrev Dg := ByteArray × Int × Int × Int
def dg0 : Dg := (⟨#[]⟩, 0, 0, 0)
/-- The cells of a list of dangers. -/
def dgV (ps : List Dg) : List Value := ps.flatMap fun p => [.string p.1, .int .i64 p.2.1, .int .i64 p.2.2.1, .int .i64 p.2.2.2]
theorem dgV_len (ps : List Dg) : (dgV ps).length = ps.length * 4 := by
  induction ps with
  | nil => rfl
  | cons p ps ih => simp only [dgV, List.flatMap_cons, List.length_append, List.length_cons, List.length_nil] at *; omega
theorem dgV_app (ps qs : List Dg) : dgV (ps ++ qs) = dgV ps ++ dgV qs := by simp [dgV]
theorem dgV_at : ∀ (ps : List Dg) (i : Nat), i < ps.length → (dgV ps)[i * 4]? = some (.string (ps.getD i dg0).1) ∧ (dgV ps)[i * 4 + 1]? = some (.int .i64 (ps.getD i dg0).2.1) ∧ (dgV ps)[i * 4 + 2]? = some (.int .i64 (ps.getD i dg0).2.2.1) ∧ (dgV ps)[i * 4 + 3]? = some (.int .i64 (ps.getD i dg0).2.2.2)
  | [], _, h => by simp at h
  | p :: ps, 0, _ => ⟨rfl, rfl, rfl, rfl⟩
  | p :: ps, i + 1, h => by
    have := dgV_at ps i (by simpa using h)
    rw [show (i + 1) * 4 = i * 4 + 4 by omega]
    simpa [dgV] using this
theorem dg_getD (ps : List Dg) (i : Nat) (h : i < ps.length) : ps.getD i dg0 = ps[i] := by simp [h]
theorem dg_take (ps : List Dg) (k : Nat) (h : k < ps.length) : ps.take (k + 1) = ps.take k ++ [ps.getD k dg0] := by
  rw [List.take_succ_eq_append_getElem h]; simp [h]

/-- A slice that reads as dangers: it is empty, wherever it leads, or a row of cells. -/
def ArgDg (w : World) (a : Option Addr) (n : Nat) (ps : List Dg) : Prop :=
  n = ps.length ∧ (ps = [] ∨ ∃ b off, a = some ⟨b, off, none⟩ ∧ ∀ i, i < ps.length → w.cell? ⟨b, off + i * 4, none⟩ = some (.string (ps.getD i dg0).1) ∧ w.cell? ⟨b, off + i * 4 + 1, none⟩ = some (.int .i64 (ps.getD i dg0).2.1) ∧ w.cell? ⟨b, off + i * 4 + 2, none⟩ = some (.int .i64 (ps.getD i dg0).2.2.1) ∧ w.cell? ⟨b, off + i * 4 + 3, none⟩ = some (.int .i64 (ps.getD i dg0).2.2.2))
theorem ArgDg.below {w w' : World} {a : Option Addr} {n : Nat} {ps : List Dg} (h : ArgDg w a n ps) (hb : Below w.heap.size w w') : ArgDg w' a n ps := by
  obtain ⟨h0, h⟩ := h
  refine ⟨h0, ?_⟩
  rcases h with h | ⟨b, off, h1, h2⟩
  · exact .inl h
  · exact .inr ⟨b, off, h1, fun i hi => ⟨cell_below (h2 i hi).1 hb, cell_below (h2 i hi).2.1 hb, cell_below (h2 i hi).2.2.1 hb, cell_below (h2 i hi).2.2.2 hb⟩⟩
theorem ArgDg.drewN {w : World} {a : Option Addr} {n : Nat} {ps : List Dg} (h : ArgDg w a n ps) (m : Nat) : ArgDg (w.drewN m) a n ps := h.below (below_drewN (Below.refl _ _) m)
theorem ArgDg.drew {w : World} {a : Option Addr} {n : Nat} {ps : List Dg} (h : ArgDg w a n ps) : ArgDg w.drew a n ps := h.below (Below.refl _ _).drew
/-- A slice as a value. -/
def DgAre (w : World) (sv : Value) (ps : List Dg) : Prop := ∃ a c, sv = .slice a ps.length c ∧ ArgDg w a ps.length ps
theorem DgAre.below {w w' : World} {v : Value} {ps : List Dg} (h : DgAre w v ps) (hb : Below w.heap.size w w') : DgAre w' v ps := by
  obtain ⟨a, c, rfl, h⟩ := h
  exact ⟨a, c, rfl, h.below hb⟩
theorem DgAre.none (w : World) : DgAre w (.slice none 0 0) [] := ⟨_, _, rfl, rfl, .inl rfl⟩

theorem dginfo_parts {t : TypeId} {z : Value} {s b : Nat} (h : (Try.prog.info? t).map (fun i => (i.zero, i.size, i.bytes)) = some (some z, s, b)) :
    ∃ i, Try.prog.info? t = some i ∧ i.zero = some z ∧ i.size = s ∧ i.bytes = b := by
  cases hi : Try.prog.info? t with
  | none => rw [hi] at h; cases h
  | some i => rw [hi] at h; simp at h; exact ⟨i, rfl, h.1, h.2.1, h.2.2⟩
theorem infoDg : (Try.prog.info? 44).map (fun i => (i.zero, i.size, i.bytes)) = some (some (.agg #[.string ⟨#[]⟩, .int .i64 0, .int .i64 0, .int .i64 0]), 4, 40) := by kernel_rfl

/-- An owned row of dangers. -/
def OwnDg (w : World) (B : Nat) (v : Value) (ps : List Dg) : Prop := w.ownsRow B 44 4 v ps.length (dgV ps)
theorem OwnDg.below {w w' : World} {B : Nat} {v : Value} {ps : List Dg} (h : OwnDg w B v ps) (hb : Below w.heap.size w w') : OwnDg w' B v ps := by
  refine ⟨h.1, ?_⟩
  rcases h.2 with h2 | ⟨g, cap, cur, h1, h3, h4, h5⟩
  · exact .inl h2
  · refine .inr ⟨g, cap, cur, h1, h3, ?_, h5⟩
    have hlt : g < w.heap.size := by
      rcases Nat.lt_or_ge g w.heap.size with h' | h'
      · exact h'
      · rw [Array.getElem?_eq_none h'] at h4; cases h4
    rw [hb.block g hlt]; exact h4
theorem OwnDg.mono {w : World} {B B' : Nat} {v : Value} {ps : List Dg} (h : OwnDg w B v ps) (hB : B' ≤ B) : OwnDg w B' v ps := by
  refine ⟨h.1, ?_⟩
  rcases h.2 with h2 | ⟨g, cap, cur, h1, h3, h4⟩
  · exact .inl h2
  · exact .inr ⟨g, cap, cur, h1, Nat.le_trans hB h3, h4⟩
theorem OwnDg.none (w : World) (B : Nat) : OwnDg w B (.slice none 0 0) [] := ⟨rfl, .inl ⟨rfl, rfl⟩⟩
theorem OwnDg.drew {w : World} {B : Nat} {v : Value} {ps : List Dg} (h : OwnDg w B v ps) : OwnDg w.drew B v ps := h.below (Below.refl _ _).drew
theorem OwnDg.drewN {w : World} {B : Nat} {v : Value} {ps : List Dg} (h : OwnDg w B v ps) (m : Nat) : OwnDg (w.drewN m) B v ps := h.below (below_drewN (Below.refl _ _) m)
theorem OwnDg.are {w : World} {B : Nat} {v : Value} {ps : List Dg} (h : OwnDg w B v ps) : DgAre w v ps := by
  by_cases h0 : ps.length = 0
  · have hnil : ps = [] := List.length_eq_zero_iff.1 h0
    subst hnil
    rcases h.2 with ⟨h1, _⟩ | ⟨g, cap, cur, h1, _⟩
    · exact ⟨_, 0, h1, rfl, .inl rfl⟩
    · exact ⟨_, cap, h1, rfl, .inl rfl⟩
  · obtain ⟨g, cap, hv⟩ : ∃ g cap, v = .slice (some ⟨g, 0, Option.none⟩) ps.length cap := by
      rcases h.2 with ⟨_, hz⟩ | ⟨g, cap, _, hv, _⟩
      · exact absurd hz h0
      · exact ⟨g, cap, hv⟩
    subst hv
    refine ⟨_, cap, rfl, rfl, .inr ⟨g, 0, rfl, fun i hi => ?_⟩⟩
    obtain ⟨v0, v1, v2, v3⟩ := dgV_at ps i hi
    have h' : w.ownsRow B 44 4 (.slice (some ⟨g, 0, Option.none⟩) ps.length cap) ps.length (dgV ps) := h
    rw [Nat.zero_add]
    exact ⟨(h'.cellAt (i * 4) (by omega)).trans v0, (h'.cellAt (i * 4 + 1) (by omega)).trans v1, (h'.cellAt (i * 4 + 2) (by omega)).trans v2, (h'.cellAt (i * 4 + 3) (by omega)).trans v3⟩
theorem OwnDg.form {w : World} {B : Nat} {v : Value} {ps : List Dg} (h : OwnDg w B v ps) : (v = .slice Option.none 0 0 ∧ ps = []) ∨ ∃ g cap, v = .slice (some ⟨g, 0, Option.none⟩) ps.length cap ∧ B ≤ g := by
  rcases h.2 with ⟨h1, h2⟩ | ⟨g, cap, cur, h1, h3, _⟩
  · exact .inl ⟨h1, List.length_eq_zero_iff.1 (by simpa using h2)⟩
  · exact .inr ⟨g, cap, h1, h3⟩

/-- So far k cells of a row are these. -/
def DgUpto (xs : List Value) (k : Nat) (ys : List Value) : Prop := xs.length = ys.length ∧ ∀ j, j < k → xs[j]? = ys[j]?
theorem DgUpto.step {xs ys : List Value} {k : Nat} (h : DgUpto xs k ys) (hk : k < ys.length) {u : Value} (hu : ys[k]? = some u) : DgUpto (xs.set k u) (k + 1) ys := by
  refine ⟨by simpa using h.1, fun j hj => ?_⟩
  rw [List.getElem?_set]
  by_cases e : k = j
  · subst e
    rw [if_pos rfl, if_pos (by rw [h.1]; exact hk), hu]
  · rw [if_neg e]; exact h.2 j (by omega)
theorem DgUpto.all {xs ys : List Value} (h : DgUpto xs ys.length ys) : xs = ys := by
  apply List.ext_getElem?
  intro j
  by_cases hj : j < ys.length
  · exact h.2 j hj
  · rw [List.getElem?_eq_none (by rw [h.1]; omega), List.getElem?_eq_none (by omega)]

theorem todg_any (f : ByteArray) (t s r : Int) (w : World) :
    Calls Try.prog 21 #[.agg #[.string f, .int .i64 t, .int .i64 s, .int .i64 r]] w fun e w' => e = .returned (.agg #[.string f, .int .i64 t, .int .i64 s, .int .i64 r]) ∧ Below w.heap.size w w' := by
  go_enter Try.func21, Try.ntmps21
  go_wp2_with (go_at_call 14; go_in)
  go_returns
  exact ⟨rfl, by go_grown⟩
theorem eqdg_any (f : ByteArray) (t s r : Int) (w : World) :
    Calls Try.prog 60 #[.agg #[.string f, .int .i64 t, .int .i64 s, .int .i64 r], .agg #[.string f, .int .i64 t, .int .i64 s, .int .i64 r]] w fun e w' => e = .returned (.bool true) ∧ Below w.heap.size w w' := by
  go_enter Try.func60, Try.ntmps60
  go_wp2_with (go_at_call 74; go_in)
  go_ret
  exact ⟨rfl, by go_grown⟩
/-- What is left of a size behind a list. -/
def SzD (ps : List Dg) (left r : Int) : Prop := r = -1 ∨ (0 ≤ r ∧ r ≤ left ∧ (ps.length : Int) ≤ left ∧ ∀ p, p ∈ ps → (p.1.size : Int) ≤ left)
theorem szdg_any (f : ByteArray) (t s r : Int) (left : Int) (w : World) (hm : f.size ≤ maxLen) (h0 : 0 ≤ left) (h1 : left ≤ 1048576) :
    Calls Try.prog 19 #[.agg #[.string f, .int .i64 t, .int .i64 s, .int .i64 r], .int .i64 left] w fun e w' => e = .returned (.int .i64 (if left < (f.size : Int) then -1 else left - f.size)) ∧ Below w.heap.size w w' := by
  unfold maxLen at hm
  by_cases h : left < (f.size : Int)
  · rw [if_pos h]
    have h2 : left - (f.size : Int) < 0 := by omega
    go_enter Try.func19, Try.ntmps19
    go_wp2
    go_ret
    exact ⟨rfl, by go_grown⟩
  · rw [if_neg h]
    have h2 : ¬ left - (f.size : Int) < 0 := by omega
    have hw : wrap64 (left - (f.size : Int)) = left - f.size := IntWalk.wrap64_in _ (by omega)
    go_enter Try.func19, Try.ntmps19
    go_wp2
    go_ret
    exact ⟨rfl, by go_grown⟩
set_option maxHeartbeats 1000000 in
theorem szdgs_any (a : Option Addr) (n c : Nat) (left : Int) (ps : List Dg) (w : World) (hm : n ≤ maxLen) (hsz : ∀ p, p ∈ ps → p.1.size ≤ maxLen) (h0 : 0 ≤ left) (h1 : left ≤ 1048576) (h : ArgDg w a n ps) :
    Calls Try.prog 23 #[.slice a n c, .int .i64 left] w fun e w' => ∃ r, SzD ps left r ∧ e = .returned (.int .i64 r) ∧ Below w.heap.size w w' := by
  unfold maxLen at hm
  obtain ⟨rfl, h⟩ := h
  by_cases hl : left < (ps.length : Int)
  · have h2 : left - (ps.length : Int) < 0 := by omega
    go_enter Try.func23, Try.ntmps23
    go_wp2
    go_ret
    exact ⟨-1, .inl rfl, rfl, by go_grown⟩
  · have h2 : ¬ left - (ps.length : Int) < 0 := by omega
    have hw0 : wrap64 (left - (ps.length : Int)) = left - ps.length := IntWalk.wrap64_in _ (by omega)
    rcases h with rfl | ⟨b, off, rfl, hc⟩
    · go_enter Try.func23, Try.ntmps23
      go_wp2
      go_rounds 1
      go_ret
      refine ⟨_, ?_, rfl, by go_grown⟩
      refine .inr ⟨?_, ?_, ?_, fun p hp => by cases hp⟩ <;> (try simp) <;> (try omega)
    · have HC := Lib.hid hc
      clear hc
      go_enter Try.func23, Try.ntmps23
      go_wp2_with (fail)
      go_loopw [1, 5] (fun l i wr => ∃ (k : Nat) (r : Int), k ≤ ps.length ∧ i = .int .i64 k ∧ l = .int .i64 r ∧ 0 ≤ r ∧ r ≤ left ∧ (∀ p, p ∈ ps.take k → (p.1.size : Int) ≤ left) ∧ Below w.heap.size w wr) (fun _ i _ => ps.length - (intOf i).toNat)
      case atStart => exact ⟨0, left - ps.length, Nat.zero_le _, rfl, by first | rfl | rw [hw0], by omega, by omega, fun p hp => by simp at hp, by go_grown⟩
      case round =>
        obtain ⟨k, r, hk, rfl, rfl, hr0, hr1, hall, hbel⟩ := hrel
        have HALL := Lib.hid hall
        clear hall
        by_cases hlt : k < ps.length
        · have hkn : (k : Int) < (ps.length : Int) := by omega
          have e0 := cell_below (HC.out k hlt).1 hbel
          have e1 := cell_below (HC.out k hlt).2.1 hbel
          have e2 := cell_below (HC.out k hlt).2.2.1 hbel
          have e3 := cell_below (HC.out k hlt).2.2.2 hbel
          have HT := Lib.hid (dg_take ps k hlt)
          have hs := hsz (ps.getD k dg0) (by rw [dg_getD _ _ hlt]; exact List.getElem_mem hlt)
          have HS := Lib.hid (fun w' => szdg_any (ps.getD k dg0).1 (ps.getD k dg0).2.1 (ps.getD k dg0).2.2.1 (ps.getD k dg0).2.2.2 r w' hs hr0 (by omega))
          generalize hq : ps.getD k dg0 = q at *
          obtain ⟨f, x, y, z⟩ := q
          simp only at e0 e1 e2 e3 HS hs
          have HB := Lib.hid hbel
          clear hbel hq
          by_cases hf : r < (f.size : Int)
          · rw [if_pos hf] at HS
            clear hf
            go_wp2_with (go_at_call 19; refine (HS.out _).mono ?_; rintro e w2 ⟨rfl, hb⟩; have AC := Lib.hid (Below.next HB.out hb); clear hb)
            go_ret
            exact ⟨-1, .inl rfl, rfl, AC.out⟩
          · rw [if_neg hf] at HS
            obtain ⟨m, hmm⟩ : ∃ m, m = r - (f.size : Int) := ⟨_, rfl⟩
            rw [← hmm] at HS
            have hn : ¬ m < 0 := by omega
            have hml : m ≤ left := by omega
            have hfl : (f.size : Int) ≤ left := by omega
            clear hf hmm
            go_wp2_with (go_at_call 19; refine (HS.out _).mono ?_; rintro e w2 ⟨rfl, hb⟩; have AC := Lib.hid (Below.next HB.out hb); clear hb)
            go_roundw
            case rel => exact ⟨k + 1, m, by omega, by go_num, rfl, by omega, hml, by
              rw [HT.out]
              intro p hp
              rcases List.mem_append.1 hp with h | h
              · exact HALL.out p h
              · rw [List.mem_singleton] at h; subst h; exact hfl, AC.out⟩
            case measure => simp [intOf]; omega
        · obtain rfl : k = ps.length := by omega
          have HBE := Lib.hid hbel
          have HA := Lib.hid (show ∀ p, p ∈ ps → (p.1.size : Int) ≤ left by have := HALL.out; rwa [List.take_of_length_le (Nat.le_refl _)] at this)
          clear hbel
          go_wp2
          go_ret
          exact ⟨r, .inr ⟨hr0, hr1, by omega, HA.out⟩, rfl, HBE.out⟩

/-- A copy of a list of dangers in memory of its own. -/
def CopyDg (ps : List Dg) (w : World) (e : Ending) (w' : World) : Prop := ∃ v, e = .returned v ∧ OwnDg w' w.heap.size v ps ∧ Below w.heap.size w w'
theorem todgs_nil (a : Option Addr) (c : Nat) (w : World) :
    Calls Try.prog 25 #[.slice a 0 c] w (CopyDg [] w) := by
  obtain ⟨i0, hi, hz0, hz1, hz2⟩ := dginfo_parts infoDg
  go_enter Try.func25, Try.ntmps25
  go_wp2_with (at_make; refine wpList_make_full _ rfl _ _ 50 rfl w.heap.size 44 i0 (.agg #[.string ⟨#[]⟩, .int .i64 0, .int .i64 0, .int .i64 0]) 4 Try.underlying50 hi hz0 hz1 _ _ _ _ 0 rfl rfl rfl rfl (by omega) (by unfold maxLen; omega) (Nat.le_refl _) ?_)
  intro w1 hown hg
  have hb : Below w.heap.size w w1 := (Below.refl _ _).grown hg (Nat.le_refl _) (fun k hk => by cases hk)
  have HO := Lib.hid hown
  have HB := Lib.hid hb
  clear hown hg hb
  go_wp2
  go_rounds 1
  go_ret
  have e : (madeCells #[Value.string ⟨#[]⟩, Value.int .i64 0, Value.int .i64 0, Value.int .i64 0] 0).toList = ([] : List Value) := List.length_eq_zero_iff.1 (by have := HO.out.1; simpa using this)
  exact ⟨_, rfl, by have h := HO.out; rw [e] at h; exact h, HB.out⟩

set_option maxHeartbeats 1000000 in
theorem todgs_row (b off cap : Nat) (ps : List Dg) (w : World) (hn : ps.length ≤ 1048576)
    (hc : ∀ i, i < ps.length → w.cell? ⟨b, off + i * 4, none⟩ = some (.string (ps.getD i dg0).1) ∧ w.cell? ⟨b, off + i * 4 + 1, none⟩ = some (.int .i64 (ps.getD i dg0).2.1) ∧ w.cell? ⟨b, off + i * 4 + 2, none⟩ = some (.int .i64 (ps.getD i dg0).2.2.1) ∧ w.cell? ⟨b, off + i * 4 + 3, none⟩ = some (.int .i64 (ps.getD i dg0).2.2.2)) :
    Calls Try.prog 25 #[.slice (some ⟨b, off, none⟩) ps.length cap] w (CopyDg ps w) := by
  obtain ⟨i0, hi, hz0, hz1, hz2⟩ := dginfo_parts infoDg
  have HC := Lib.hid hc
  clear hc
  go_enter Try.func25, Try.ntmps25
  go_wp2_with (at_make; refine wpList_make_full _ rfl _ _ 50 rfl w.heap.size 44 i0 (.agg #[.string ⟨#[]⟩, .int .i64 0, .int .i64 0, .int .i64 0]) 4 Try.underlying50 hi hz0 hz1 _ _ _ _ ps.length rfl rfl rfl rfl (by rw [hz2]; omega) (by unfold maxLen; omega) (Nat.le_refl _) ?_)
  intro w1 hown hg
  have hb : Below w.heap.size w w1 := (Below.refl _ _).grown hg (Nat.le_refl _) (fun k hk => by cases hk)
  obtain ⟨xs0, hx0⟩ : ∃ xs0, xs0 = (madeCells #[Value.string ⟨#[]⟩, Value.int .i64 0, Value.int .i64 0, Value.int .i64 0] (ps.length * 4)).toList := ⟨_, rfl⟩
  rw [← hx0] at hown
  have hl0 : xs0.length = ps.length * 4 := by have := hown.1; omega
  have HO := Lib.hid hown
  have HB := Lib.hid hb
  clear hown hg hb hx0
  go_wp2_with (fail)
  go_loopw [4] (fun i wr => ∃ (k : Nat) (xs : List Value), k ≤ ps.length ∧ i = .int .i64 k ∧ DgUpto xs (k * 4) (dgV ps) ∧ wr.ownsRow w.heap.size 44 4 (.slice (some ⟨w.heap.size, 0, none⟩) ps.length ps.length) ps.length xs ∧ Below w.heap.size w wr) (fun i _ => ps.length - (intOf i).toNat)
  case atStart => exact ⟨0, xs0, Nat.zero_le _, rfl, ⟨by rw [dgV_len]; exact hl0, fun j hj => by omega⟩, HO.out, HB.out⟩
  case round =>
    obtain ⟨k, xs, hk, rfl, hup, hown, hbel⟩ := hrel
    have HU := Lib.hid hup
    have HOW := Lib.hid hown
    have HBE := Lib.hid hbel
    clear hup hown
    by_cases hlt : k < ps.length
    · have c0 := cell_below (HC.out k hlt).1 hbel
      have c1 := cell_below (HC.out k hlt).2.1 hbel
      have c2 := cell_below (HC.out k hlt).2.2.1 hbel
      have c3 := cell_below (HC.out k hlt).2.2.2 hbel
      obtain ⟨v0, v1, v2, v3⟩ := dgV_at ps k hlt
      have hlen := dgV_len ps
      have u1 := HU.out.step (u := .string (ps.getD k dg0).1) (by omega) v0
      have u2 := u1.step (u := .int .i64 (ps.getD k dg0).2.1) (by omega) v1
      have u3 := u2.step (u := .int .i64 (ps.getD k dg0).2.2.1) (by omega) v2
      have u4 := u3.step (u := .int .i64 (ps.getD k dg0).2.2.2) (by omega) v3
      generalize (ps.getD k dg0).1 = x at *
      generalize (ps.getD k dg0).2.1 = y at *
      generalize (ps.getD k dg0).2.2.1 = s at *
      generalize (ps.getD k dg0).2.2.2 = rr at *
      have HU2 := Lib.hid u4
      clear u1 u2 u3 u4 v0 v1 v2 v3 hbel hlen
      have hkn : (k : Int) < (ps.length : Int) := by omega
      go_wp2_with (go_at_call 21; refine (todg_any _ _ _ _ _).mono ?_; rintro e w2 ⟨rfl, hb⟩; refine Hid.out ?_)
      refine Lib.hid ?_
      have ho2 : w2.ownsRow w.heap.size 44 4 (.slice (some ⟨w.heap.size, 0, none⟩) ps.length ps.length) ps.length xs := by
        refine ⟨HOW.out.1, ?_⟩
        rcases HOW.out.2 with h2 | ⟨g, cap, cur, h1, h3, h4, h5⟩
        · exact .inl h2
        · refine .inr ⟨g, cap, cur, h1, h3, ?_, h5⟩
          have hlt : g < wr.heap.size := by
            rcases Nat.lt_or_ge g wr.heap.size with h' | h'
            · exact h'
            · rw [Array.getElem?_eq_none h'] at h4; cases h4
          rw [hb.block g hlt]; exact h4
      have hb2 := HBE.out.trans (hb.mono HBE.out.size)
      have hxl : xs.length = ps.length * 4 := by have := HU.out.1; rw [dgV_len] at this; exact this
      obtain ⟨z0, o0⟩ : ∃ z, w2.cell? ⟨w.heap.size, k * 4, none⟩ = some z := ⟨_, (ho2.cellAt (k * 4) (by omega)).trans (List.getElem?_eq_getElem (by omega))⟩
      obtain ⟨z1, o1⟩ : ∃ z, w2.cell? ⟨w.heap.size, k * 4 + 1, none⟩ = some z := ⟨_, (ho2.cellAt (k * 4 + 1) (by omega)).trans (List.getElem?_eq_getElem (by omega))⟩
      obtain ⟨z2, o2⟩ : ∃ z, w2.cell? ⟨w.heap.size, k * 4 + 2, none⟩ = some z := ⟨_, (ho2.cellAt (k * 4 + 2) (by omega)).trans (List.getElem?_eq_getElem (by omega))⟩
      obtain ⟨z3, o3⟩ : ∃ z, w2.cell? ⟨w.heap.size, k * 4 + 3, none⟩ = some z := ⟨_, (ho2.cellAt (k * 4 + 3) (by omega)).trans (List.getElem?_eq_getElem (by omega))⟩
      have f0 := ho2.frozenAt (k * 4)
      have f1 := ho2.frozenAt (k * 4 + 1)
      have f2 := ho2.frozenAt (k * 4 + 2)
      have f3 := ho2.frozenAt (k * 4 + 3)
      have HST := Lib.hid ((((ho2.stored (k * 4) (.string x)).1.stored (k * 4 + 1) (.int .i64 y)).1.stored (k * 4 + 2) (.int .i64 s)).1.stored (k * 4 + 3) (.int .i64 rr)).1
      have HB2 := Lib.hid ((((hb2.setCell (p := ⟨w.heap.size, k * 4, none⟩) (Nat.le_refl _) (.string x)).setCell (p := ⟨w.heap.size, k * 4 + 1, none⟩) (Nat.le_refl _) (.int .i64 y)).setCell (p := ⟨w.heap.size, k * 4 + 2, none⟩) (Nat.le_refl _) (.int .i64 s)).setCell (p := ⟨w.heap.size, k * 4 + 3, none⟩) (Nat.le_refl _) (.int .i64 rr))
      clear hb ho2 hb2 c0 c1 c2 c3 hxl
      go_wp2_with (fail)
      go_roundw
      case rel => exact ⟨k + 1, _, by omega, by go_num, by rw [show (k + 1) * 4 = k * 4 + 1 + 1 + 1 + 1 by omega]; exact HU2.out, HST.out, HB2.out⟩
      case measure => simp [intOf]; omega
    · obtain rfl : k = ps.length := by omega
      have hx : xs = dgV ps := by
        have h := HU.out
        rw [← dgV_len] at h
        exact h.all
      have HOX := Lib.hid (hx ▸ HOW.out)
      clear hbel hx
      go_wp2
      go_ret
      exact ⟨_, rfl, HOX.out, HBE.out⟩
theorem todgs_any (a : Option Addr) (n c : Nat) (ps : List Dg) (w : World) (h : ArgDg w a n ps) (hn : ps.length ≤ 1048576) :
    Calls Try.prog 25 #[.slice a n c] w (CopyDg ps w) := by
  obtain ⟨rfl, h⟩ := h
  rcases h with rfl | ⟨b, off, rfl, h2⟩
  · exact todgs_nil a c w
  · exact todgs_row b off c ps w hn h2

/-- Worlds with 8 cells. -/
theorem clx8d {w0 w : World} {a0 a1 a2 a3 a4 a5 a6 a7 : Addr} {v0 v1 v2 v3 v4 v5 v6 v7 : Value} (h0 : w.cell? a0 = some v0) (h1 : w.cell? a1 = some v1) (h2 : w.cell? a2 = some v2) (h3 : w.cell? a3 = some v3) (h4 : w.cell? a4 = some v4) (h5 : w.cell? a5 = some v5) (h6 : w.cell? a6 = some v6) (h7 : w.cell? a7 = some v7) (hB : Below w0.heap.size w0 w) :
    ∃ S : World → Prop, (∀ w1 w2, S w1 → Below w1.heap.size w1 w2 → S w2) ∧ S w.drew ∧ (∀ p : Clx S, p.v.cell? a0 = some v0) ∧ (∀ p : Clx S, p.v.cell? a1 = some v1) ∧ (∀ p : Clx S, p.v.cell? a2 = some v2) ∧ (∀ p : Clx S, p.v.cell? a3 = some v3) ∧ (∀ p : Clx S, p.v.cell? a4 = some v4) ∧ (∀ p : Clx S, p.v.cell? a5 = some v5) ∧ (∀ p : Clx S, p.v.cell? a6 = some v6) ∧ (∀ p : Clx S, p.v.cell? a7 = some v7) ∧ ∀ p : Clx S, Below w0.heap.size w0 p.v :=
  ⟨fun w' => w'.cell? a0 = some v0 ∧ w'.cell? a1 = some v1 ∧ w'.cell? a2 = some v2 ∧ w'.cell? a3 = some v3 ∧ w'.cell? a4 = some v4 ∧ w'.cell? a5 = some v5 ∧ w'.cell? a6 = some v6 ∧ w'.cell? a7 = some v7 ∧ Below w0.heap.size w0 w', fun _ _ ⟨x0, x1, x2, x3, x4, x5, x6, x7, xb⟩ hb => ⟨cell_below x0 hb, cell_below x1 hb, cell_below x2 hb, cell_below x3 hb, cell_below x4 hb, cell_below x5 hb, cell_below x6 hb, cell_below x7 hb, Below.next xb hb⟩, ⟨cell_below h0 (Below.refl _ _).drew, cell_below h1 (Below.refl _ _).drew, cell_below h2 (Below.refl _ _).drew, cell_below h3 (Below.refl _ _).drew, cell_below h4 (Below.refl _ _).drew, cell_below h5 (Below.refl _ _).drew, cell_below h6 (Below.refl _ _).drew, cell_below h7 (Below.refl _ _).drew, hB.drew⟩, fun p => p.h.1, fun p => p.h.2.1, fun p => p.h.2.2.1, fun p => p.h.2.2.2.1, fun p => p.h.2.2.2.2.1, fun p => p.h.2.2.2.2.2.1, fun p => p.h.2.2.2.2.2.2.1, fun p => p.h.2.2.2.2.2.2.2.1, fun p => p.h.2.2.2.2.2.2.2.2⟩
theorem eqdgs_at (a1 a2 : Option Addr) (c1 c2 : Nat) (ps : List Dg) (w : World) (hn : ps.length ≤ 1048576) (h1 : ArgDg w a1 ps.length ps) (h2 : ArgDg w a2 ps.length ps) :
    Calls Try.prog 27 #[.slice a1 ps.length c1, .slice a2 ps.length c2] w fun e w' => e = .returned (.bool true) ∧ Below w.heap.size w w' := by
  by_cases h0 : ps.length = 0
  · have hnil : ps = [] := List.length_eq_zero_iff.1 h0
    subst hnil
    clear h1 h2 h0
    go_enter Try.func27, Try.ntmps27
    go_wp2
    go_rounds 1
    go_ret
    exact ⟨rfl, Below.refl _ _⟩
  · obtain ⟨b, off, rfl, H1⟩ := h1.2.resolve_left (by intro e; rw [e] at h0; exact h0 rfl)
    obtain ⟨b', off', rfl, H2⟩ := h2.2.resolve_left (by intro e; rw [e] at h0; exact h0 rfl)
    have HC := Lib.hid H1
    have HD := Lib.hid H2
    clear H1 H2 h0 h1 h2
    go_enter Try.func27, Try.ntmps27
    go_wp2_with (fail)
    go_loopw [5] (fun i wr => ∃ k : Nat, k ≤ ps.length ∧ i = .int .i64 k ∧ Below w.heap.size w wr) (fun i _ => ps.length - (intOf i).toNat)
    case atStart => exact ⟨0, Nat.zero_le _, rfl, by go_grown⟩
    case round =>
      obtain ⟨k, hk, rfl, hbel⟩ := hrel
      by_cases hlt : k < ps.length
      · have hkn : (k : Int) < (ps.length : Int) := by omega
        have e0 := cell_below (HC.out k hlt).1 hbel
        have e1 := cell_below (HC.out k hlt).2.1 hbel
        have e2 := cell_below (HC.out k hlt).2.2.1 hbel
        have e3 := cell_below (HC.out k hlt).2.2.2 hbel
        have e4 := cell_below (HD.out k hlt).1 hbel
        have e5 := cell_below (HD.out k hlt).2.1 hbel
        have e6 := cell_below (HD.out k hlt).2.2.1 hbel
        have e7 := cell_below (HD.out k hlt).2.2.2 hbel
        generalize (ps.getD k dg0).1 = x at *
        generalize (ps.getD k dg0).2.1 = y at *
        generalize (ps.getD k dg0).2.2.1 = s at *
        generalize (ps.getD k dg0).2.2.2 = rr at *
        have HE := Lib.hid (fun w' => eqdg_any x y s rr w')
        go_wp2_with (fail)
        obtain ⟨S, hcl, hS0, k0, k1, k2, k3, k4, k5, k6, k7, kB⟩ := clx8d e0 e1 e2 e3 e4 e5 e6 e7 hbel
        have hne : Nonempty (Clx S) := ⟨⟨_, hS0⟩⟩
        clear e0 e1 e2 e3 e4 e5 e6 e7 hbel
        refine wp_region_clx S (by kernel_rfl) (by kernel_rfl) hS0 ?_
        repeat (go_big_quiet_step ((go_at_call 60; exact Clx.call hcl _ (HE.out _))))
        refine wpQuiet_nil ?_
        intro _ hw'
        obtain ⟨p, rfl⟩ := hw'
        have HB2 := Lib.hid (kB p)
        clear hS0 kB k0 k1 k2 k3 k4 k5 k6 k7 hne hcl
        go_wp2_with (fail)
        go_roundw
        case rel => exact ⟨k + 1, by omega, by go_num, HB2.out⟩
        case measure => simp [intOf]; omega
      · have hge : ¬ (k : Int) < (ps.length : Int) := by omega
        have HBE := Lib.hid hbel
        clear hbel
        go_wp2
        go_ret
        exact ⟨rfl, HBE.out⟩
theorem eqdgs_same (v1 v2 : Value) (ps : List Dg) (w : World) (hn : ps.length ≤ 1048576) (h1 : DgAre w v1 ps) (h2 : DgAre w v2 ps) :
    Calls Try.prog 27 #[v1, v2] w fun e w' => e = .returned (.bool true) ∧ Below w.heap.size w w' := by
  obtain ⟨a1, c1, rfl, h1⟩ := h1
  obtain ⟨a2, c2, rfl, h2⟩ := h2
  exact eqdgs_at a1 a2 c1 c2 ps w hn h1 h2
end Go.Proofs.Ythccbipjmheoaaa
namespace Go.Proofs.Ythccbipjmheoaaa
open Go.ChangeShapes Go.WideShapes Go.ChangeAt Go.RowKit Pm

/-- Is a danger valid? -/
def okD (q : Dg) : Bool := nameB q.1.data.toList && (inB 0 200000 [q.2.1, q.2.2.1] && inB 1 20000 [q.2.2.2])
/-- A danger in memory. -/
def DgAt (w : World) (b o : Nat) (q : Dg) : Prop := w.cell? ⟨b, o, none⟩ = some (.string q.1) ∧ w.cell? ⟨b, o + 1, none⟩ = some (.int .i64 q.2.1) ∧ w.cell? ⟨b, o + 2, none⟩ = some (.int .i64 q.2.2.1) ∧ w.cell? ⟨b, o + 3, none⟩ = some (.int .i64 q.2.2.2)
theorem DgAt.below {w w' : World} {b o : Nat} {q : Dg} (h : DgAt w b o q) (hb : Below w.heap.size w w') : DgAt w' b o q := ⟨cell_below h.1 hb, cell_below h.2.1 hb, cell_below h.2.2.1 hb, cell_below h.2.2.2 hb⟩
theorem DgAt.new {w : World} {T : TypeId} (q : Dg) (n : Nat) (hn : w.heap.size = n) : DgAt (w.alloc (.cells #[.string q.1, .int .i64 q.2.1, .int .i64 q.2.2.1, .int .i64 q.2.2.2] T)) n 0 q := by
  subst hn
  refine ⟨?_, ?_, ?_, ?_⟩ <;> simp
theorem okD_parts {q : Dg} (h : okD q = true) : q.1.size ≤ 10 ∧ 0 < q.1.size ∧ okB (q.2.1, q.2.2.1) = true ∧ 1 ≤ q.2.2.2 ∧ q.2.2.2 ≤ 20000 := by
  simp only [okD, Bool.and_eq_true] at h
  obtain ⟨h1, h2, h3⟩ := h
  have a3 : 1 ≤ q.2.2.2 ∧ q.2.2.2 ≤ 20000 := by simpa [inB] using h3
  refine ⟨?_, ?_, h2, a3.1, a3.2⟩
  · rcases Nat.lt_or_ge 10 q.1.size with c | c
    · rw [nameB_long c] at h1; cases h1
    · exact c
  · rcases Nat.eq_zero_or_pos q.1.size with c | c
    · rw [nameB_none c] at h1; cases h1
    · exact c
set_option maxRecDepth 100000 in
set_option maxHeartbeats 1000000 in
theorem validdg_any (s : ByteArray) (x y z : Int) (w : World) (hs : s.size ≤ maxLen) :
    Calls Try.prog 22 #[.agg #[.string s, .int .i64 x, .int .i64 y, .int .i64 z]] w fun e w' => e = .returned (.bool (okD (s, x, y, z))) ∧ Below w.heap.size w w' := by
  have HI := Lib.hid (fun w' => isname_any s w' hs)
  have HO := Lib.hid (fun w' => ok_any x y w')
  have HZ := Lib.hid (fun (w' : World) (m : Nat) (hm : w'.heap.size = m) => within_any 1 20000 _ [z] _ (ints_one_at w' z m hm))
  have hV : okD (s, x, y, z) = (nameB s.data.toList && (inB 0 200000 [x, y] && inB 1 20000 [z])) := rfl
  generalize okD (s, x, y, z) = V at *
  generalize nameB s.data.toList = b1 at *
  generalize inB 0 200000 [x, y] = b2 at *
  generalize inB 1 20000 [z] = b3 at *
  have HV := Lib.hid hV
  clear hV
  cases b1
  · go_enter Try.func22, Try.ntmps22
    go_wp2_with (first
      | (go_at_call 55; (refine (HI.out _).mono ?_); rintro e w1 ⟨rfl, hb⟩; have x1 := cell_below (a := ⟨w.heap.size, 1, none⟩) (v := .int .i64 x) (by go_cell) hb; have x2 := cell_below (a := ⟨w.heap.size, 2, none⟩) (v := .int .i64 y) (by go_cell) hb; have x3 := cell_below (a := ⟨w.heap.size, 3, none⟩) (v := .int .i64 z) (by go_cell) hb; have AC1 := Lib.hid (Below.next (a := w) (by go_grown) hb); clear hb))
    go_ret
    exact ⟨retB HV.out.symm, AC1.out⟩
  cases b2
  · go_enter Try.func22, Try.ntmps22
    go_wp2_with (first
      | (go_at_call 55; (refine (HI.out _).mono ?_); rintro e w1 ⟨rfl, hb⟩; have x1 := cell_below (a := ⟨w.heap.size, 1, none⟩) (v := .int .i64 x) (by go_cell) hb; have x2 := cell_below (a := ⟨w.heap.size, 2, none⟩) (v := .int .i64 y) (by go_cell) hb; have x3 := cell_below (a := ⟨w.heap.size, 3, none⟩) (v := .int .i64 z) (by go_cell) hb; have AC1 := Lib.hid (Below.next (a := w) (by go_grown) hb); clear hb)
      | (go_at_call 49; (refine (HO.out _).mono ?_); rintro e w2 ⟨rfl, hb⟩; have y3 := cell_below x3 hb; have AC2 := Lib.hid (Below.next AC1.out hb); clear hb))
    go_ret
    exact ⟨retB HV.out.symm, AC2.out⟩
  cases b3
  · go_enter Try.func22, Try.ntmps22
    go_wp2_with (first
      | (go_at_call 55; (refine (HI.out _).mono ?_); rintro e w1 ⟨rfl, hb⟩; have x1 := cell_below (a := ⟨w.heap.size, 1, none⟩) (v := .int .i64 x) (by go_cell) hb; have x2 := cell_below (a := ⟨w.heap.size, 2, none⟩) (v := .int .i64 y) (by go_cell) hb; have x3 := cell_below (a := ⟨w.heap.size, 3, none⟩) (v := .int .i64 z) (by go_cell) hb; have AC1 := Lib.hid (Below.next (a := w) (by go_grown) hb); clear hb)
      | (go_at_call 49; (refine (HO.out _).mono ?_); rintro e w2 ⟨rfl, hb⟩; have y3 := cell_below x3 hb; have AC2 := Lib.hid (Below.next AC1.out hb); clear hb)
      | (go_at_call 56; (refine (HZ.out _ _ (by simp)).mono ?_); rintro e w3 ⟨rfl, rfl⟩; have AC3 := Lib.hid (AC2.out.alloc AC2.out.size (.cells #[Value.int .i64 z] 2))))
    go_ret
    exact ⟨retB HV.out.symm, AC3.out⟩
  · go_enter Try.func22, Try.ntmps22
    go_wp2_with (first
      | (go_at_call 55; (refine (HI.out _).mono ?_); rintro e w1 ⟨rfl, hb⟩; have x1 := cell_below (a := ⟨w.heap.size, 1, none⟩) (v := .int .i64 x) (by go_cell) hb; have x2 := cell_below (a := ⟨w.heap.size, 2, none⟩) (v := .int .i64 y) (by go_cell) hb; have x3 := cell_below (a := ⟨w.heap.size, 3, none⟩) (v := .int .i64 z) (by go_cell) hb; have AC1 := Lib.hid (Below.next (a := w) (by go_grown) hb); clear hb)
      | (go_at_call 49; (refine (HO.out _).mono ?_); rintro e w2 ⟨rfl, hb⟩; have y3 := cell_below x3 hb; have AC2 := Lib.hid (Below.next AC1.out hb); clear hb)
      | (go_at_call 56; (refine (HZ.out _ _ (by simp)).mono ?_); rintro e w3 ⟨rfl, rfl⟩; have AC3 := Lib.hid (AC2.out.alloc AC2.out.size (.cells #[Value.int .i64 z] 2))))
    go_ret
    exact ⟨retB HV.out.symm, AC3.out⟩
set_option maxRecDepth 100000 in
set_option maxHeartbeats 1000000 in
theorem sone_any (b o : Nat) (q : Dg) (w : World) (hs : q.1.size ≤ maxLen) (h : DgAt w b o q) :
    Calls Try.prog 54 #[.pointer (some ⟨b, o, none⟩)] w fun e w' => e = .returned (.bool (okD q)) ∧ Below w.heap.size w w' := by
  obtain ⟨s, x, y, z⟩ := q
  obtain ⟨h0, h1, h2, h3⟩ := h
  simp only at h0 h1 h2 h3 hs
  have HI := Lib.hid (fun w' => below_eq (sname_any s w' hs))
  have HO := Lib.hid (fun w' => sok_any x y w')
  have HZ := Lib.hid (fun w' => in_any z 1 20000 w')
  have hV : okD (s, x, y, z) = (nameB s.data.toList && (inB 0 200000 [x, y] && inB 1 20000 [z])) := rfl
  generalize okD (s, x, y, z) = V at *
  generalize nameB s.data.toList = b1 at *
  generalize inB 0 200000 [x, y] = b2 at *
  generalize inB 1 20000 [z] = b3 at *
  have HV := Lib.hid hV
  clear hV
  cases b1
  · go_enter Try.func54, Try.ntmps54
    go_wp2_with (first
      | (go_at_call 78; (refine (HI.out _).mono ?_); rintro e w1 ⟨rfl, hb⟩; have x1 := cell_below h1 hb; have x2 := cell_below h2 hb; have x3 := cell_below h3 hb; have AC1 := Lib.hid (Below.next (a := w) (by go_grown) hb); clear hb))
    go_ret
    exact ⟨retB HV.out.symm, AC1.out⟩
  cases b2
  · go_enter Try.func54, Try.ntmps54
    go_wp2_with (first
      | (go_at_call 78; (refine (HI.out _).mono ?_); rintro e w1 ⟨rfl, hb⟩; have x1 := cell_below h1 hb; have x2 := cell_below h2 hb; have x3 := cell_below h3 hb; have AC1 := Lib.hid (Below.next (a := w) (by go_grown) hb); clear hb)
      | (go_at_call 46; (refine (HO.out _).mono ?_); rintro e w2 ⟨rfl, hb⟩; have y3 := cell_below x3 hb; have AC2 := Lib.hid (Below.next AC1.out hb); clear hb))
    go_ret
    exact ⟨retB HV.out.symm, AC2.out⟩
  cases b3
  · go_enter Try.func54, Try.ntmps54
    go_wp2_with (first
      | (go_at_call 78; (refine (HI.out _).mono ?_); rintro e w1 ⟨rfl, hb⟩; have x1 := cell_below h1 hb; have x2 := cell_below h2 hb; have x3 := cell_below h3 hb; have AC1 := Lib.hid (Below.next (a := w) (by go_grown) hb); clear hb)
      | (go_at_call 46; (refine (HO.out _).mono ?_); rintro e w2 ⟨rfl, hb⟩; have y3 := cell_below x3 hb; have AC2 := Lib.hid (Below.next AC1.out hb); clear hb)
      | (go_at_call 75; (refine (HZ.out _).mono ?_); rintro e w3 ⟨rfl, rfl⟩; have AC3 := Lib.hid AC2.out))
    go_ret
    exact ⟨retB HV.out.symm, AC3.out⟩
  · go_enter Try.func54, Try.ntmps54
    go_wp2_with (first
      | (go_at_call 78; (refine (HI.out _).mono ?_); rintro e w1 ⟨rfl, hb⟩; have x1 := cell_below h1 hb; have x2 := cell_below h2 hb; have x3 := cell_below h3 hb; have AC1 := Lib.hid (Below.next (a := w) (by go_grown) hb); clear hb)
      | (go_at_call 46; (refine (HO.out _).mono ?_); rintro e w2 ⟨rfl, hb⟩; have y3 := cell_below x3 hb; have AC2 := Lib.hid (Below.next AC1.out hb); clear hb)
      | (go_at_call 75; (refine (HZ.out _).mono ?_); rintro e w3 ⟨rfl, rfl⟩; have AC3 := Lib.hid AC2.out))
    go_ret
    exact ⟨retB HV.out.symm, AC3.out⟩
set_option maxRecDepth 100000 in
theorem svaliddg_any (s : ByteArray) (x y z : Int) (w : World) (hs : s.size ≤ maxLen) :
    Calls Try.prog 20 #[.agg #[.string s, .int .i64 x, .int .i64 y, .int .i64 z]] w fun e w' => e = .returned (.bool (okD (s, x, y, z))) ∧ Below w.heap.size w w' := by
  have HV := Lib.hid (fun b w' h => sone_any b 0 (s, x, y, z) w' hs h)
  have CH := Lib.hid (DgAt.new (w := w) (T := 44) (s, x, y, z) w.heap.size rfl)
  simp only at CH
  generalize okD (s, x, y, z) = V at *
  go_enter Try.func20, Try.ntmps20
  go_wp2_with (go_at_call 54; (refine (HV.out _ _ CH.out).mono ?_); rintro e w1 ⟨rfl, hb⟩; have AC := Lib.hid (Below.next (a := w) (by go_grown) hb); clear hb)
  go_ret
  exact ⟨rfl, AC.out⟩
end Go.Proofs.Ythccbipjmheoaaa
