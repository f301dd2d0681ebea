/- Marks in a row of points, from any number on. -/
import Derived.Test.YthccbipjmheoaaaDgrK
namespace Go.Proofs.Ythccbipjmheoaaa
open Go.ChangeShapes Go.WideShapes Go.ChangeAt Go.RowKit Pm

theorem ptown_form {w : World} {B : Nat} {E : TypeId} {v : Value} {n : Nat} {xs : List Value} (h : w.ownsRow B E 2 v n xs) :
    (v = .slice none 0 0 ∧ n = 0) ∨ ∃ g cap, v = .slice (some ⟨g, 0, none⟩) n cap ∧ B ≤ g := by
  rcases h.2 with ⟨h1, h2⟩ | ⟨g, cap, cur, h1, h3, _⟩
  · exact .inl ⟨h1, by simpa using h2⟩
  · exact .inr ⟨g, cap, h1, h3⟩
set_option maxRecDepth 100000 in
set_option maxHeartbeats 4000000 in
theorem markpt_any (v : Value) (n : Nat) (xs : List Value) (B : Nat) (K : Int) (w : World) (hn : n ≤ 1048576) (hK0 : 0 ≤ K) (hK : K ≤ 10000000) (ho : w.ownsRow B 33 2 v n xs) :
    Calls Try.prog 44 #[v, .int .i64 K] w (fun e w' => e = .returned (.int .i64 (K + 2 * (n : Int))) ∧ Below B w w' ∧ OnlyD v w w') := by
  rcases ptown_form ho with ⟨rfl, rfl⟩ | ⟨g, cap, rfl, hB⟩
  · have HO := Lib.hid ho
    clear ho
    go_enter Try.func44, Try.ntmps44
    go_wp2
    go_rounds 1
    go_ret
    exact ⟨by simp, Below.refl _ _, OnlyD.refl _ _⟩
  · have HO := Lib.hid ho
    have HKK := Lib.hid (And.intro hK0 hK)
    clear ho hK0 hK
    go_enter Try.func44, Try.ntmps44
    go_wp2
    go_loopw [1, 5] (fun q i wr => ∃ (j : Nat) (ys : List Value) (c : Int), j ≤ n ∧ i = .int .i64 j ∧ q = .int .i64 c ∧ c = K + 2 * (j : Int) ∧ wr.ownsRow B 33 2 (.slice (some ⟨g, 0, none⟩) n cap) n ys ∧ Below B w wr ∧ OnlyD (.slice (some ⟨g, 0, none⟩) n cap) w wr) (fun _ i _ => n - (intOf i).toNat)
    case atStart => exact ⟨0, xs, K, Nat.zero_le _, rfl, rfl, by simp, HO.out, Below.refl _ _, OnlyD.refl _ _⟩
    case round =>
      obtain ⟨j, ys, c, hj, rfl, rfl, hc, hown, hbel, hon⟩ := hrel
      have HON := Lib.hid hon
      have HBR := Lib.hid hbel
      have HCC := Lib.hid hc
      have hc1 : 0 ≤ c := by have := HKK.out; omega
      have hc2 : c ≤ 20000000 := by have := HKK.out; omega
      clear hon
      by_cases hlt : j < n
      · have hjn : (j : Int) < (n : Int) := by omega
        have hyl : ys.length = n * 2 := by have := hown.1; omega
        obtain ⟨z0, o0⟩ : ∃ z, wr.cell? ⟨g, j * 2, none⟩ = some z := ⟨_, (hown.cellAt (j * 2) (by omega)).trans (List.getElem?_eq_getElem (by omega))⟩
        obtain ⟨z1, o1⟩ : ∃ z, wr.cell? ⟨g, j * 2 + 1, none⟩ = some z := ⟨_, (hown.cellAt (j * 2 + 1) (by omega)).trans (List.getElem?_eq_getElem (by omega))⟩
        have f0 := hown.frozenAt (j * 2)
        have f1 := hown.frozenAt (j * 2 + 1)
        have HST := Lib.hid ((hown.stored (j * 2) (.int .i64 c)).1.stored (j * 2 + 1) (.int .i64 (c + 1))).1
        have HB2 := Lib.hid ((hbel.setCell (p := ⟨g, j * 2, none⟩) hB (.int .i64 c)).setCell (p := ⟨g, j * 2 + 1, none⟩) hB (.int .i64 (c + 1)))
        have HN2 := Lib.hid ((HON.out.put (g := g) (j := j * 2) (u := .int .i64 c) rfl).put (g := g) (j := j * 2 + 1) (u := .int .i64 (c + 1)) rfl)
        clear hown hbel hc
        go_wp2
        go_roundw
        case rel => exact ⟨j + 1, _, c + 1 + 1, by omega, by go_num, by go_num, by have := HCC.out; omega, HST.out, HB2.out, HN2.out⟩
        case measure => simp [intOf]; omega
      · obtain rfl : j = n := by omega
        clear hc hown hbel
        go_wp2
        go_ret
        exact ⟨by rw [← HCC.out]; first | rfl | simp, HBR.out, HON.out⟩
end Go.Proofs.Ythccbipjmheoaaa
