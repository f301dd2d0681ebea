/- Marks in a row of strings, and the comparison of two rows. -/
import Derived.Test.YtppfgcjeeokomaaDoorWords
import Derived.Deep.RegionWith
import Derived.Deep.QuietTactic
import Derived.BigQuiet
namespace Go.Proofs.YtppfgcjeeokomaaDoor
open Go.ChangeShapes Go.WideShapes Go.ChangeAt Go.RowKit Pm

/-- The texts, in order. -/
def marksT (k n : Nat) : List ByteArray := (List.range n).map fun (j : Nat) => mtext (k + j)
theorem marksT_len (k n : Nat) : (strV (marksT k n)).length = n := by simp [strV, marksT]
theorem marksT_at (k n j : Nat) (h : j < n) : (strV (marksT k n))[j]? = some (.string (mtext (k + j))) := by simp [strV, marksT, h]

theorem markt_any (v : Value) (n : Nat) (xs : List Value) (B : Nat) (w : World) (hB0 : B ≤ w.heap.size) (hn : n ≤ 2097152) (ho : w.ownsRow B 9 1 v n xs) :
    Calls Tryd.prog 29 #[v, .int .i64 1] w (fun e w' => e = .returned (.int .i64 (1 + n)) ∧ w'.ownsRow B 9 1 v n (strV (marksT 1 n)) ∧ Below B w w') := by
  rcases own_form ho with ⟨rfl, rfl⟩ | ⟨g, cap, rfl, hB⟩
  · have HO := Lib.hid ho
    clear ho
    go_enter Tryd.func29, Tryd.ntmps29
    go_wp2
    go_rounds 1
    go_ret
    exact ⟨by simp, own_none _ _ _, Below.refl _ _⟩
  · have hxl : xs.length = n := by have := ho.1; omega
    have HO := Lib.hid ho
    clear ho
    go_enter Tryd.func29, Tryd.ntmps29
    go_wp2
    go_loopw [1, 5] (fun q i wr => ∃ (j : Nat) (ys : List Value), j ≤ n ∧ i = .int .i64 j ∧ q = .int .i64 ((1 + j : Nat) : Int) ∧ Upto ys j (strV (marksT 1 n)) ∧ wr.ownsRow B 9 1 (.slice (some ⟨g, 0, none⟩) n cap) n ys ∧ Below B w wr) (fun _ i _ => n - (intOf i).toNat)
    case atStart => exact ⟨0, xs, Nat.zero_le _, rfl, rfl, ⟨by rw [marksT_len, hxl], fun j hj => by omega⟩, HO.out, Below.refl _ _⟩
    case round =>
      obtain ⟨j, ys, hj, rfl, rfl, hup, hown, hbel⟩ := hrel
      have HU := Lib.hid hup
      have HOW := Lib.hid hown
      have HBR := Lib.hid hbel
      clear hup hown hbel
      by_cases hlt : j < n
      · have HM := Lib.hid (fun w => marktext_any (1 + j) w (by omega) (by omega))
        have HUP := Lib.hid (HU.out.step (u := .string (mtext (1 + j))) (by rw [marksT_len]; exact hlt) (marksT_at 1 n j hlt))
        obtain ⟨u, hu⟩ : ∃ u, u = mtext (1 + j) := ⟨_, rfl⟩
        rw [← hu] at HM HUP
        clear hu
        go_wp2_with (go_at_call 53; refine (HM.out _).mono ?_; rintro e w2 ⟨rfl, hb2⟩; refine Hid.out ?_)
        refine Lib.hid ?_
        have hown := own_below HOW.out hb2
        have hbel := HBR.out.trans (hb2.mono (Nat.le_trans hB0 HBR.out.size))
        have hold := hown.cellAt j (by omega)
        rw [List.getElem?_eq_getElem (by have := HU.out.1; rw [marksT_len] at this; omega)] at hold
        have hfz := hown.frozenAt j
        have HST := Lib.hid (hown.stored j (.string u)).1
        have HB2 := Lib.hid (hbel.setCell (p := ⟨g, j, none⟩) hB (.string u))
        clear hown hbel hb2
        go_wp2
        go_roundw
        case rel => exact ⟨j + 1, _, by omega, by go_num, by go_num, HUP.out, HST.out, HB2.out⟩
        case measure => simp [intOf]; omega
      · obtain rfl : j = n := by omega
        have e : ys = strV (marksT 1 j) := Upto.all (by rw [marksT_len]; exact HU.out)
        have HO2 := Lib.hid (e ▸ HOW.out)
        clear e HOW
        go_wp2
        go_ret
        exact ⟨by go_num, HO2.out, HBR.out⟩
end Go.Proofs.YtppfgcjeeokomaaDoor
