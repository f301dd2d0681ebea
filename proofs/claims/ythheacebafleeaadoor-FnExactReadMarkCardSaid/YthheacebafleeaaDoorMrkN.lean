/- The kind with a name: the program's. -/
import Derived.Test.YthheacebafleeaaDoorMrkT
import Derived.Maps.Own
import Derived.Maps.OwnOps
import Derived.Maps.OwnSet
import Derived.Maps.Views
import Derived.Deep.MidRow
import Derived.Deep.LoopGhost
namespace Go.Proofs.YthheacebafleeaaDoor
open Go.ChangeShapes Go.WideShapes Go.WideMaps Go.ChangeAt Go.RowKit Go.Maps Pm

/-- The number of a name; -1 if it is none. -/
def NamedIs (s : ByteArray) (v : Int) : Prop := (v = -1 ∧ ∀ r : Nat, r < 10 → mkF r 0 ≠ s) ∨ ∃ r : Nat, r < 10 ∧ v = (r : Int) ∧ mkF r 0 = s
theorem named_ex (s : ByteArray) : ∃ v, NamedIs s v := by
  by_cases h : ∃ r : Nat, r < 10 ∧ mkF r 0 = s
  · obtain ⟨r, hr, e⟩ := h; exact ⟨r, .inr ⟨r, hr, rfl, e⟩⟩
  · exact ⟨-1, .inl ⟨rfl, fun r hr e => h ⟨r, hr, e⟩⟩⟩
theorem names_apart : ∀ q : Fin 10, ∀ r : Fin 10, mkF ((q.val : Nat) : Int) 0 = mkF ((r.val : Nat) : Int) 0 → q = r := by decide +kernel
theorem name_inj {q r : Nat} (hq : q < 10) (hr : r < 10) (e : mkF q 0 = mkF r 0) : q = r := congrArg Fin.val (names_apart ⟨q, hq⟩ ⟨r, hr⟩ e)
/-- What is answered. -/
def nmA (v : Int) : Int := if v < 0 then 0 else v
def nmB (v : Int) : Bool := decide (0 ≤ v)
/-- The key of a text. -/
def keyS (s : ByteArray) : Lit := .string s.data.toList
theorem keyS_ne {a b : ByteArray} (h : a ≠ b) : keyS a ≠ keyS b := fun e => h (WideShapes.bytes_inj (Lit.string.inj e))
/-- The map behind j rounds. -/
def NC : Nat → DataW Unit
  | 0 => .map []
  | j + 1 => (NC j).put (keyS (mkF j 0)) (.lit (.int .i64 (j : Int)))
theorem NC_map : ∀ j, IsMap (NC j)
  | 0 => isMap_empty
  | j + 1 => (NC_map j).put _ _
theorem NC_none (s : ByteArray) : ∀ j, (∀ r : Nat, r < j → mkF r 0 ≠ s) → (NC j).atKey (keyS s) (.lit (.int .i64 0)) = .lit (.int .i64 0) ∧ Maps.has (NC j) (keyS s) = false
  | 0, _ => ⟨rfl, rfl⟩
  | j + 1, h => by
    have hne : keyS s ≠ keyS (mkF j 0) := keyS_ne (fun e => h j (by omega) e.symm)
    have ih := NC_none s j (fun r hr => h r (by omega))
    unfold NC
    rw [atKey_put_other hne, has_put_other hne]
    exact ih
theorem NC_at (s : ByteArray) (r : Nat) (e : mkF r 0 = s) : ∀ j, r < j → j ≤ 10 → (NC j).atKey (keyS s) (.lit (.int .i64 0)) = .lit (.int .i64 (r : Int)) ∧ Maps.has (NC j) (keyS s) = true
  | 0, h, _ => by omega
  | j + 1, h, h10 => by
    unfold NC
    by_cases hj : r = j
    · subst hj
      have hk : WideAt.IsKeyLit (keyS s) := by simp [keyS, WideAt.IsKeyLit]
      rw [e, atKey_put_same (NC_map r) hk, has_put_same (NC_map r) hk]
      exact ⟨rfl, rfl⟩
    · have hne : keyS s ≠ keyS (mkF j 0) := keyS_ne (fun e2 => hj (name_inj (by omega) (by omega) (e.trans e2)))
      rw [atKey_put_other hne, has_put_other hne]
      exact NC_at s r e j (by omega) (by omega)
theorem NC_is {s : ByteArray} {v : Int} (h : NamedIs s v) : (NC 10).atKey (keyS s) (.lit (.int .i64 0)) = .lit (.int .i64 (nmA v)) ∧ Maps.has (NC 10) (keyS s) = nmB v := by
  rcases h with ⟨rfl, h⟩ | ⟨r, hr, rfl, e⟩
  · exact NC_none s 10 h
  · have h1 : nmA (r : Int) = (r : Int) := by unfold nmA; rw [if_neg (by omega)]
    have h2 : nmB (r : Int) = true := by unfold nmB; rw [decide_eq_true_iff]; omega
    rw [h1, h2]
    exact NC_at s r e 10 hr (Nat.le_refl _)
theorem name_size {r : Nat} (hr : r < 10) : (mkF r 0).size ≤ 10 := by
  have : r = 0 ∨ r = 1 ∨ r = 2 ∨ r = 3 ∨ r = 4 ∨ r = 5 ∨ r = 6 ∨ r = 7 ∨ r = 8 ∨ r = 9 := by omega
  rcases this with rfl | rfl | rfl | rfl | rfl | rfl | rfl | rfl | rfl | rfl <;> decide +kernel
/-- The table of marks as values. -/
def mrkA : List Value := [.string (mkF ((0 : Nat) : Int) 0), .string (mkF ((0 : Nat) : Int) 1), .string (mkF ((0 : Nat) : Int) 2), .string (mkF ((0 : Nat) : Int) 3), .string (mkF ((0 : Nat) : Int) 4), .string (mkF ((0 : Nat) : Int) 5), .string (mkF ((0 : Nat) : Int) 6), .string (mkF ((1 : Nat) : Int) 0), .string (mkF ((1 : Nat) : Int) 1), .string (mkF ((1 : Nat) : Int) 2), .string (mkF ((1 : Nat) : Int) 3), .string (mkF ((1 : Nat) : Int) 4), .string (mkF ((1 : Nat) : Int) 5), .string (mkF ((1 : Nat) : Int) 6), .string (mkF ((2 : Nat) : Int) 0), .string (mkF ((2 : Nat) : Int) 1), .string (mkF ((2 : Nat) : Int) 2), .string (mkF ((2 : Nat) : Int) 3), .string (mkF ((2 : Nat) : Int) 4), .string (mkF ((2 : Nat) : Int) 5), .string (mkF ((2 : Nat) : Int) 6), .string (mkF ((3 : Nat) : Int) 0), .string (mkF ((3 : Nat) : Int) 1), .string (mkF ((3 : Nat) : Int) 2), .string (mkF ((3 : Nat) : Int) 3), .string (mkF ((3 : Nat) : Int) 4), .string (mkF ((3 : Nat) : Int) 5), .string (mkF ((3 : Nat) : Int) 6), .string (mkF ((4 : Nat) : Int) 0), .string (mkF ((4 : Nat) : Int) 1), .string (mkF ((4 : Nat) : Int) 2), .string (mkF ((4 : Nat) : Int) 3), .string (mkF ((4 : Nat) : Int) 4), .string (mkF ((4 : Nat) : Int) 5), .string (mkF ((4 : Nat) : Int) 6), .string (mkF ((5 : Nat) : Int) 0), .string (mkF ((5 : Nat) : Int) 1), .string (mkF ((5 : Nat) : Int) 2), .string (mkF ((5 : Nat) : Int) 3), .string (mkF ((5 : Nat) : Int) 4), .string (mkF ((5 : Nat) : Int) 5), .string (mkF ((5 : Nat) : Int) 6), .string (mkF ((6 : Nat) : Int) 0), .string (mkF ((6 : Nat) : Int) 1), .string (mkF ((6 : Nat) : Int) 2), .string (mkF ((6 : Nat) : Int) 3), .string (mkF ((6 : Nat) : Int) 4), .string (mkF ((6 : Nat) : Int) 5), .string (mkF ((6 : Nat) : Int) 6), .string (mkF ((7 : Nat) : Int) 0), .string (mkF ((7 : Nat) : Int) 1), .string (mkF ((7 : Nat) : Int) 2), .string (mkF ((7 : Nat) : Int) 3), .string (mkF ((7 : Nat) : Int) 4), .string (mkF ((7 : Nat) : Int) 5), .string (mkF ((7 : Nat) : Int) 6), .string (mkF ((8 : Nat) : Int) 0), .string (mkF ((8 : Nat) : Int) 1), .string (mkF ((8 : Nat) : Int) 2), .string (mkF ((8 : Nat) : Int) 3), .string (mkF ((8 : Nat) : Int) 4), .string (mkF ((8 : Nat) : Int) 5), .string (mkF ((8 : Nat) : Int) 6), .string (mkF ((9 : Nat) : Int) 0), .string (mkF ((9 : Nat) : Int) 1), .string (mkF ((9 : Nat) : Int) 2), .string (mkF ((9 : Nat) : Int) 3), .string (mkF ((9 : Nat) : Int) 4), .string (mkF ((9 : Nat) : Int) 5), .string (mkF ((9 : Nat) : Int) 6)]
theorem mrkA_at (r i : Nat) (hr : r < 10) (hi : i < 7) : mrkA[r * 7 + i]? = some (.string (mkF r i)) := by
  have : r = 0 ∨ r = 1 ∨ r = 2 ∨ r = 3 ∨ r = 4 ∨ r = 5 ∨ r = 6 ∨ r = 7 ∨ r = 8 ∨ r = 9 := by omega
  have h7 : i = 0 ∨ i = 1 ∨ i = 2 ∨ i = 3 ∨ i = 4 ∨ i = 5 ∨ i = 6 := by omega
  rcases this with rfl | rfl | rfl | rfl | rfl | rfl | rfl | rfl | rfl | rfl <;> rcases h7 with rfl | rfl | rfl | rfl | rfl | rfl | rfl <;> rfl
theorem mrkA_range {w : World} (h : MarksAt w) : w.rangeAt 0 0 mrkA := by
  intro j v hv
  have hj : j < 70 := (List.getElem?_eq_some_iff.1 hv).1
  rw [Nat.zero_add]
  have hm := mrkA_at (j / 7) (j % 7) (by omega) (by omega)
  have he : j / 7 * 7 + j % 7 = j := by omega
  rw [he] at hm
  have hc := h (j / 7) (by omega) (j % 7) (by omega)
  rw [he] at hc
  rw [hc, ← hm, hv]
theorem index_mrk0 (w : World) : (Instr.index 53 (.agg mrkA.toArray) (.int .i64 ((0 : Nat) : Int))).run Tryd.prog w = .ok (.agg #[.string (mkF ((0 : Nat) : Int) 0), .string (mkF ((0 : Nat) : Int) 1), .string (mkF ((0 : Nat) : Int) 2), .string (mkF ((0 : Nat) : Int) 3), .string (mkF ((0 : Nat) : Int) 4), .string (mkF ((0 : Nat) : Int) 5), .string (mkF ((0 : Nat) : Int) 6)]) w := (show ∀ w, _ from fun _ => by kernel_rfl) w
theorem index_mrk1 (w : World) : (Instr.index 53 (.agg mrkA.toArray) (.int .i64 ((1 : Nat) : Int))).run Tryd.prog w = .ok (.agg #[.string (mkF ((1 : Nat) : Int) 0), .string (mkF ((1 : Nat) : Int) 1), .string (mkF ((1 : Nat) : Int) 2), .string (mkF ((1 : Nat) : Int) 3), .string (mkF ((1 : Nat) : Int) 4), .string (mkF ((1 : Nat) : Int) 5), .string (mkF ((1 : Nat) : Int) 6)]) w := (show ∀ w, _ from fun _ => by kernel_rfl) w
theorem index_mrk2 (w : World) : (Instr.index 53 (.agg mrkA.toArray) (.int .i64 ((2 : Nat) : Int))).run Tryd.prog w = .ok (.agg #[.string (mkF ((2 : Nat) : Int) 0), .string (mkF ((2 : Nat) : Int) 1), .string (mkF ((2 : Nat) : Int) 2), .string (mkF ((2 : Nat) : Int) 3), .string (mkF ((2 : Nat) : Int) 4), .string (mkF ((2 : Nat) : Int) 5), .string (mkF ((2 : Nat) : Int) 6)]) w := (show ∀ w, _ from fun _ => by kernel_rfl) w
theorem index_mrk3 (w : World) : (Instr.index 53 (.agg mrkA.toArray) (.int .i64 ((3 : Nat) : Int))).run Tryd.prog w = .ok (.agg #[.string (mkF ((3 : Nat) : Int) 0), .string (mkF ((3 : Nat) : Int) 1), .string (mkF ((3 : Nat) : Int) 2), .string (mkF ((3 : Nat) : Int) 3), .string (mkF ((3 : Nat) : Int) 4), .string (mkF ((3 : Nat) : Int) 5), .string (mkF ((3 : Nat) : Int) 6)]) w := (show ∀ w, _ from fun _ => by kernel_rfl) w
theorem index_mrk4 (w : World) : (Instr.index 53 (.agg mrkA.toArray) (.int .i64 ((4 : Nat) : Int))).run Tryd.prog w = .ok (.agg #[.string (mkF ((4 : Nat) : Int) 0), .string (mkF ((4 : Nat) : Int) 1), .string (mkF ((4 : Nat) : Int) 2), .string (mkF ((4 : Nat) : Int) 3), .string (mkF ((4 : Nat) : Int) 4), .string (mkF ((4 : Nat) : Int) 5), .string (mkF ((4 : Nat) : Int) 6)]) w := (show ∀ w, _ from fun _ => by kernel_rfl) w
theorem index_mrk5 (w : World) : (Instr.index 53 (.agg mrkA.toArray) (.int .i64 ((5 : Nat) : Int))).run Tryd.prog w = .ok (.agg #[.string (mkF ((5 : Nat) : Int) 0), .string (mkF ((5 : Nat) : Int) 1), .string (mkF ((5 : Nat) : Int) 2), .string (mkF ((5 : Nat) : Int) 3), .string (mkF ((5 : Nat) : Int) 4), .string (mkF ((5 : Nat) : Int) 5), .string (mkF ((5 : Nat) : Int) 6)]) w := (show ∀ w, _ from fun _ => by kernel_rfl) w
theorem index_mrk6 (w : World) : (Instr.index 53 (.agg mrkA.toArray) (.int .i64 ((6 : Nat) : Int))).run Tryd.prog w = .ok (.agg #[.string (mkF ((6 : Nat) : Int) 0), .string (mkF ((6 : Nat) : Int) 1), .string (mkF ((6 : Nat) : Int) 2), .string (mkF ((6 : Nat) : Int) 3), .string (mkF ((6 : Nat) : Int) 4), .string (mkF ((6 : Nat) : Int) 5), .string (mkF ((6 : Nat) : Int) 6)]) w := (show ∀ w, _ from fun _ => by kernel_rfl) w
theorem index_mrk7 (w : World) : (Instr.index 53 (.agg mrkA.toArray) (.int .i64 ((7 : Nat) : Int))).run Tryd.prog w = .ok (.agg #[.string (mkF ((7 : Nat) : Int) 0), .string (mkF ((7 : Nat) : Int) 1), .string (mkF ((7 : Nat) : Int) 2), .string (mkF ((7 : Nat) : Int) 3), .string (mkF ((7 : Nat) : Int) 4), .string (mkF ((7 : Nat) : Int) 5), .string (mkF ((7 : Nat) : Int) 6)]) w := (show ∀ w, _ from fun _ => by kernel_rfl) w
theorem index_mrk8 (w : World) : (Instr.index 53 (.agg mrkA.toArray) (.int .i64 ((8 : Nat) : Int))).run Tryd.prog w = .ok (.agg #[.string (mkF ((8 : Nat) : Int) 0), .string (mkF ((8 : Nat) : Int) 1), .string (mkF ((8 : Nat) : Int) 2), .string (mkF ((8 : Nat) : Int) 3), .string (mkF ((8 : Nat) : Int) 4), .string (mkF ((8 : Nat) : Int) 5), .string (mkF ((8 : Nat) : Int) 6)]) w := (show ∀ w, _ from fun _ => by kernel_rfl) w
theorem index_mrk9 (w : World) : (Instr.index 53 (.agg mrkA.toArray) (.int .i64 ((9 : Nat) : Int))).run Tryd.prog w = .ok (.agg #[.string (mkF ((9 : Nat) : Int) 0), .string (mkF ((9 : Nat) : Int) 1), .string (mkF ((9 : Nat) : Int) 2), .string (mkF ((9 : Nat) : Int) 3), .string (mkF ((9 : Nat) : Int) 4), .string (mkF ((9 : Nat) : Int) 5), .string (mkF ((9 : Nat) : Int) 6)]) w := (show ∀ w, _ from fun _ => by kernel_rfl) w
theorem index_mrk (r : Nat) (hr : r < 10) (w : World) : (Instr.index 53 (.agg mrkA.toArray) (.int .i64 (r : Int))).run Tryd.prog w = .ok (.agg #[.string (mkF r 0), .string (mkF r 1), .string (mkF r 2), .string (mkF r 3), .string (mkF r 4), .string (mkF r 5), .string (mkF r 6)]) w := by
  have : r = 0 ∨ r = 1 ∨ r = 2 ∨ r = 3 ∨ r = 4 ∨ r = 5 ∨ r = 6 ∨ r = 7 ∨ r = 8 ∨ r = 9 := by omega
  rcases this with rfl | rfl | rfl | rfl | rfl | rfl | rfl | rfl | rfl | rfl
  · exact index_mrk0 w
  · exact index_mrk1 w
  · exact index_mrk2 w
  · exact index_mrk3 w
  · exact index_mrk4 w
  · exact index_mrk5 w
  · exact index_mrk6 w
  · exact index_mrk7 w
  · exact index_mrk8 w
  · exact index_mrk9 w
theorem lawStr : Keyed Tryd.prog 9 := string_keyed Tryd.underlying9
theorem zeroInt (w : World) : (zeroValue 2).run Tryd.prog w = .ok (.int .i64 0) w := by kernel_rfl
theorem key_ok (s : ByteArray) (h : s.size ≤ maxLen) : keyOf Tryd.prog 9 (.string s) = some (keyS s) := keyOf_string_mk Tryd.underlying9 h
set_option maxRecDepth 100000 in
set_option maxHeartbeats 2000000 in
theorem marknamed_any (s : ByteArray) (v : Int) (w : World) (hM : MarksAt w) (hs : s.size ≤ maxLen) (hv : NamedIs s v) :
    Calls Tryd.prog 14 #[.string s] w fun e w' => e = .returned (.tuple #[.int .i64 (nmA v), .bool (nmB v)]) ∧ Below w.heap.size w w' := by
  have HR := Lib.hid (fun w' (hb : Below w.heap.size w w') => mrkA_range (hM.below hb))
  have HX := Lib.hid (fun r h w => index_mrk r h w)
  have hmm := @run_makeMap Tryd.prog
  have HKS := Lib.hid (key_ok s hs)
  obtain ⟨hat, hhas⟩ := NC_is hv
  have HAT := Lib.hid hat
  have HHAS := Lib.hid hhas
  clear hM hs hv hat hhas
  go_enter Tryd.func14, Tryd.ntmps14
  go_wp2_with (refine wpList_load_mid rfl 53 _ rfl 0 0 rfl mrkA _ (HR.out _ (by go_grown)) Tryd.underlying53 rfl (by kernel_rfl) ?_)
  obtain ⟨A, hA⟩ : ∃ A, A = mrkA.toArray := ⟨_, rfl⟩
  rw [← hA] at HX ⊢
  clear hA HR
  go_loopw [11] (fun i wr => ∃ j : Nat, j ≤ 10 ∧ i = .int .i64 j ∧ wr.ownsMap Tryd.prog 9 (plainElem Tryd.prog 2) w.heap.size j (NC j) ∧ Below w.heap.size w wr) (fun i _ => 10 - (intOf i).toNat)
  case atStart => exact ⟨0, Nat.zero_le _, rfl, World.ownsMap_made _ _ _ _, (Below.refl _ _).alloc (Nat.le_refl _) _⟩
  case round =>
    obtain ⟨j, hj, rfl, hown, hnx⟩ := hrel
    by_cases hlt : j < 10
    · have hj10 : (j : Int) < 10 := by omega
      have hidx := fun w => HX.out j hlt w
      have hkey := key_ok (mkF j 0) (by have := name_size hlt; unfold maxLen; omega)
      have HC := Lib.hid (show NC (j + 1) = (NC j).put (keyS (mkF j 0)) (.lit (.int .i64 (j : Int))) from rfl)
      generalize mkF (j : Int) 0 = n0 at *
      generalize mkF (j : Int) 1 = n1 at *
      generalize mkF (j : Int) 2 = n2 at *
      generalize mkF (j : Int) 3 = n3 at *
      generalize mkF (j : Int) 4 = n4 at *
      generalize mkF (j : Int) 5 = n5 at *
      generalize mkF (j : Int) 6 = n6 at *
      have HNX := Lib.hid hnx
      have HOWN := Lib.hid hown
      clear hnx hown
      go_wp2_with (first
        | (at_mapUpdate; refine wpList_mapUpdate_own _ rfl _ _ _ 52 rfl 9 2 lawStr Tryd.underlying52 _ w.heap.size j _ rfl (HOWN.out.alloc _) (by unfold maxLen; omega) _ _ _ rfl rfl hkey _ [] (plainElem_int Tryd.underlying2 (WalkArith.wf_i64 (by omega))) ?_; intro w1 hown1 hgrow1)
        | go_in)
      have R1 := Lib.hid (HC.out.symm ▸ hown1)
      have R2 := Lib.hid ((HNX.out.alloc HNX.out.size _).grown hgrow1 (by have := HNX.out.size; simp; omega) (fun j hj => by cases hj; exact Nat.le_refl _))
      clear hown1 hgrow1 hidx hkey
      go_wp2
      go_roundw
      case rel => exact ⟨j + 1, by omega, by go_num, R1.out, R2.out⟩
      case measure => simp [intOf]; omega
    · obtain rfl : j = 10 := by omega
      have HNX := Lib.hid hnx
      have HOWN := Lib.hid hown
      clear hnx hown
      go_wp2_with (first
        | (at_lookup; refine wpList_lookup_own_ok_int _ rfl _ _ 52 rfl 9 2 .i64 lawStr Tryd.underlying52 Tryd.underlying2 (zeroInt _) w.heap.size 10 _ rfl HOWN.out _ _ rfl HKS.out ?_; intro c hat hwc)
        | go_in)
      have hc : c = nmA v := by
        have h := hat.symm.trans HAT.out
        simpa using h
      rw [HHAS.out, hc]
      clear hat hwc hc
      go_ret2
      exact ⟨rfl, HNX.out⟩
end Go.Proofs.YthheacebafleeaaDoor
