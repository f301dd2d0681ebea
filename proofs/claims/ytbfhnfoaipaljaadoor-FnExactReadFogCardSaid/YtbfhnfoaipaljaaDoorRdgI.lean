/- Reading seconds, and the name of a kind: the program's. -/
import Derived.Test.YtbfhnfoaipaljaaDoorRdgN
import Derived.Test.YtbfhnfoaipaljaaDoorFogT
import Derived.Test.YtbfhnfoaipaljaaDoorLays
import Derived.Shelf.Strings.Prefix
import Derived.Shelf.Strings.Cut
import Derived.Shelf.Strings.Search3
import Derived.BigQuiet
import Derived.Deep.QuietTactic
import Derived.Laws.IdiomStrings
namespace Go.Proofs.YtbfhnfoaipaljaaDoor
open Go.ChangeShapes Go.WideShapes Go.ChangeAt Go.RowKit Pm

theorem trim_any (s : ByteArray) (c : UInt8) (w : World) (hs : s.size ≤ 1048576) :
    Calls Tryd.prog 86 #[.string s, .string ⟨#[c]⟩] w fun e w' => e = .returned (.string (trimT s c)) ∧ w = w' :=
  (Any.strings_TrimSuffix Tryd.lays102 s ⟨#[c]⟩ w (by omega)).mono fun e w' ⟨he, hw⟩ => ⟨he, hw.symm⟩
theorem trim_size (s : ByteArray) (c : UInt8) : (trimT s c).size ≤ s.size := by
  show (Lib.trimSuffix s.data.toList [c]).toArray.size ≤ _
  unfold Lib.trimSuffix
  have : s.size = s.data.toList.length := rfl
  split <;> simp <;> omega
theorem secs_none (s : ByteArray) (w : World) (hs : s.size ≤ 1048574) (hN : Calls Tryd.prog 113 #[.string (rsN s), .string ⟨#[46]⟩, .int .i64 2] w (PartsNo w)) :
    Calls Tryd.prog 88 #[.string s] w fun e w' => e = .returned (.int .i64 0) ∧ Below w.heap.size w w' := by
  have HN := Lib.hid hN
  have HT := Lib.hid (fun w => trim_any s 115 w (by omega))
  have hz := trim_size s 115
  have HC := Lib.hid (fun w => Any.strings_Contains_one Tryd.lays144 (trimT s 115) 46 w)
  unfold rsN at HN
  generalize trimT s 115 = t at *
  generalize decide (0 ≤ Lib.indexByte t.data.toList 46) = b at *
  have q1 := fun w => run_string_add_sum (P := Tryd.prog) (w := w) t ⟨#[46, 48]⟩ (by show t.size + 2 ≤ _; omega)
  clear hN
  cases b
  all_goals
    simp only [Bool.false_eq_true, ↓reduceIte] at HN
    go_enter Tryd.func88, Tryd.ntmps88
    go_wp2_with (first
      | (go_at_call 86; refine (HT.out _).mono ?_; rintro e w1 ⟨rfl, rfl⟩)
      | (go_at_call 112; refine (HC.out _).mono ?_; rintro e w1 ⟨rfl, rfl⟩)
      | (go_at_call 113; refine HN.out.mono ?_; rintro e w1 ⟨rfl, hb⟩))
    go_ret
    exact ⟨rfl, hb⟩
theorem two_gets {zs : List Int} (h : zs.length = 2) : zs = [zs.getD 0 0, zs.getD 1 0] := by
  match zs, h with
  | [_, _], _ => rfl
set_option maxHeartbeats 1000000 in
theorem secs_some (s : ByteArray) (x y : Int) (w : World) (hs : s.size ≤ 1048574) (x0 : -2147483648 ≤ x) (x1 : x ≤ 2147483647) (y0 : -2147483648 ≤ y) (y1 : y ≤ 2147483647)
    (hN : Calls Tryd.prog 113 #[.string (rsN s), .string ⟨#[46]⟩, .int .i64 2] w (PartsYes [x, y] 2 w)) :
    Calls Tryd.prog 88 #[.string s] w fun e w' => e = .returned (.int .i64 (x * 10 + y)) ∧ Below w.heap.size w w' := by
  have HN := Lib.hid hN
  have HT := Lib.hid (fun w => trim_any s 115 w (by omega))
  have hz := trim_size s 115
  have HC := Lib.hid (fun w => Any.strings_Contains_one Tryd.lays144 (trimT s 115) 46 w)
  unfold rsN at HN
  generalize trimT s 115 = t at *
  generalize decide (0 ≤ Lib.indexByte t.data.toList 46) = b at *
  have q1 := fun w => run_string_add_sum (P := Tryd.prog) (w := w) t ⟨#[46, 48]⟩ (by show t.size + 2 ≤ _; omega)
  have eW : IntKind.i64.wrap (x * 10) = x * 10 := IntWalk.i64_in _ (by omega)
  have eZ : IntKind.i64.wrap (x * 10 + y) = x * 10 + y := IntWalk.i64_in _ (by omega)
  clear hN x0 x1 y0 y1 hs hz
  cases b
  all_goals
    simp only [Bool.false_eq_true, ↓reduceIte] at HN
    go_enter Tryd.func88, Tryd.ntmps88
    go_wp2_with (first
      | (go_at_call 86; refine (HT.out _).mono ?_; rintro e w1 ⟨rfl, rfl⟩)
      | (go_at_call 112; refine (HC.out _).mono ?_; rintro e w1 ⟨rfl, rfl⟩)
      | (go_at_call 113; refine HN.out.mono ?_; rintro e w1 ⟨g, rfl, hc, hb⟩; have q2 := hc 0 (by omega); have q3 := hc 1 (by omega); simp only [List.getD_cons_zero, List.getD_cons_succ] at q2 q3; have HB := Lib.hid hb; clear hc hb))
    go_quiet (fail)
    go_wp2
    go_ret
    exact ⟨rfl, below_drewN HB.out _⟩
theorem secs_any (s : ByteArray) (w : World) (hs : s.size ≤ 1048574) (hl : LenAt7 w) (hE : ErrsAt w) :
    Calls Tryd.prog 88 #[.string s] w fun e w' => e = .returned (.int .i64 (rsV s)) ∧ Below w.heap.size w w' := by
  have hz := trim_size s 115
  have hn : (rsN s).size ≤ 1048576 := by
    unfold rsN
    split
    · omega
    · rw [ByteArray.size_append]; show _ + 2 ≤ _; omega
  unfold rsV
  by_cases h : (pcs 46 2 (rsN s)).length = 2 ∧ (pcs 46 2 (rsN s)).all pOk = true
  · rw [if_pos h]
    have hY := parts_yes (rsN s) 46 2 w hn (by omega) (by omega) hl hE h
    have hlen : ((pcs 46 2 (rsN s)).map pVal).length = 2 := by rw [List.length_map]; exact h.1
    have hbd : ∀ z ∈ (pcs 46 2 (rsN s)).map pVal, -2147483648 ≤ z ∧ z ≤ 2147483647 := fun z hz => by
      obtain ⟨p, _, rfl⟩ := List.mem_map.1 hz
      exact pVal_bd p
    generalize (pcs 46 2 (rsN s)).map pVal = zs at *
    have e := two_gets hlen
    have a0 := hbd (zs.getD 0 0) (by rw [e]; simp)
    have a1 := hbd (zs.getD 1 0) (by rw [e]; simp)
    rw [e] at hY
    exact secs_some s _ _ w hs a0.1 a0.2 a1.1 a1.2 hY
  · rw [if_neg h]
    exact secs_none s w hs (parts_no (rsN s) 46 2 w hn (by omega) (by omega) hl hE h)
end Go.Proofs.YtbfhnfoaipaljaaDoor
