/- The program's characters of lights: sums, comparisons of slices, what is plain, colors. -/
import Derived.Test.YthggoboljkdldaaChrM
import Derived.Test.YthggoboljkdldaaKit
import Derived.Test.YthggoboljkdldaaWithin
import Derived.Deep.QuietTactic
import Derived.BigQuiet
namespace Go.Proofs.Ythggoboljkdldaa
open Go.ChangeShapes Go.WideShapes Go.ChangeAt Go.RowKit Pm

theorem isum_take (zs : List Int) (k : Nat) (h : k < zs.length) : sumI (zs.take (k + 1)) = sumI (zs.take k) + zs.getD k 0 := by
  rw [take_succ_getD zs k h, sumI_append]; simp [sumI]
theorem iB_get {lo hi : Int} {zs : List Int} (h : inB lo hi zs = true) (k : Nat) (hk : k < zs.length) : lo ≤ zs.getD k 0 ∧ zs.getD k 0 ≤ hi := by
  have := List.all_eq_true.1 h (zs.getD k 0) (by rw [List.getD_eq_getElem?_getD, List.getElem?_eq_getElem hk]; exact List.getElem_mem _)
  simpa using this
theorem isum_bd {lo hi : Int} {zs : List Int} (h : inB lo hi zs = true) : ∀ k : Nat, k ≤ zs.length → k * lo ≤ sumI (zs.take k) ∧ sumI (zs.take k) ≤ k * hi := by
  intro k
  induction k with
  | zero => intro _; simp [sumI]
  | succ k ih =>
    intro hk
    have i1 := ih (by omega)
    have i2 := iB_get h k (by omega)
    rw [isum_take zs k (by omega), show ((k + 1 : Nat) : Int) = (k : Int) + 1 by omega, Int.add_mul, Int.add_mul]
    omega

theorem len_form {w : World} {sv : Value} {zs : List Int} (h : IntsAre .i64 w sv zs) : ∃ a c, sv = .slice a zs.length c := by
  rcases h with ⟨rfl, rfl⟩ | ⟨b, off, cap, rfl, _, _⟩
  · exact ⟨_, _, rfl⟩
  · exact ⟨_, _, rfl⟩
theorem getD_ext {a b : List Int} (hl : a.length = b.length) (h : ∀ j, j < a.length → a.getD j 0 = b.getD j 0) : a = b := by
  apply List.ext_getElem hl
  intro j h1 h2
  have := h j h1
  simpa [h1, h2] using this
/-- Comparing two slices of numbers. -/
theorem equal_any (v1 v2 : Value) (zs ys : List Int) (w : World) (h1 : IntsAre .i64 w v1 zs) (h2 : IntsAre .i64 w v2 ys) :
    Calls Try.prog 12 #[v1, v2] w fun e w' => e = .returned (.bool (decide (zs = ys))) ∧ ∃ n, w' = w.drewN n := by
  by_cases hl : zs.length = ys.length
  · by_cases h0 : zs = []
    · subst h0
      have hy : ys = [] := List.length_eq_zero_iff.1 hl.symm
      subst hy
      obtain ⟨a1, c1, rfl⟩ := len_form h1
      obtain ⟨a2, c2, rfl⟩ := len_form h2
      clear h1 h2 hl
      go_enter Try.func12, Try.ntmps12
      go_wp2
      go_rounds 1
      go_ret
      exact ⟨rfl, 0, rfl⟩
    · have hy0 : ys ≠ [] := by intro e; subst e; exact h0 (List.length_eq_zero_iff.1 hl)
      rcases h1 with ⟨_, e⟩ | ⟨b1, o1, c1, rfl, hm, hc1⟩
      · exact absurd e h0
      rcases h2 with ⟨_, e⟩ | ⟨b2, o2, c2, rfl, _, hc2⟩
      · exact absurd e hy0
      rw [← hl] at hc2 ⊢
      have HC1 := Lib.hid hc1
      have HC2 := Lib.hid hc2
      have HL := Lib.hid hl
      clear h0 hy0 hc1 hc2 hl
      go_enter Try.func12, Try.ntmps12
      go_wp2
      go_loopw [13] (fun i wr => ∃ (k m : Nat), k ≤ zs.length ∧ i = .int .i64 k ∧ (∀ j, j < k → zs.getD j 0 = ys.getD j 0) ∧ wr = w.drewN m) (fun i _ => zs.length - (intOf i).toNat)
      case atStart => exact ⟨0, 0, Nat.zero_le _, rfl, fun _ h => absurd h (Nat.not_lt_zero _), rfl⟩
      case round =>
        obtain ⟨k, m, hk, rfl, hall, rfl⟩ := hrel
        have HA := Lib.hid hall
        clear hall
        by_cases hlt : k < zs.length
        · have c1' := HC1.out k hlt
          have c2' := HC2.out k hlt
          have hki : (k : Int) < (zs.length : Int) := by omega
          by_cases hz : zs.getD k 0 = ys.getD k 0
          · have HA2 := Lib.hid (show ∀ j, j < k + 1 → zs.getD j 0 = ys.getD j 0 from fun j hj => by
              by_cases e : j = k
              · rw [e]; exact hz
              · exact HA.out j (by omega))
            rw [← hz] at c2'
            generalize zs.getD k 0 = z at c1' c2'
            clear hz
            go_wp2_with (fail)
            go_quiet (fail)
            go_wp2
            go_roundw
            case rel => exact ⟨k + 1, _, by omega, by go_num, HA2.out, rfl⟩
            case measure => simp [intOf]; omega
          · have HD := Lib.hid (show decide (zs = ys) = false from decide_eq_false (fun e => hz (by rw [e])))
            have hzb : (zs.getD k 0 != ys.getD k 0) = true := by simpa using hz
            generalize zs.getD k 0 = z at c1' hzb
            generalize ys.getD k 0 = y at c2' hzb
            clear hz
            go_wp2_with (fail)
            go_quiet (fail)
            go_wp2
            go_ret
            exact ⟨retB HD.out.symm, _, by rw [World.drewN_drewN]⟩
        · obtain rfl : k = zs.length := by omega
          have HD := Lib.hid (show decide (zs = ys) = true from decide_eq_true (getD_ext HL.out HA.out))
          go_wp2
          go_ret
          exact ⟨retB HD.out.symm, _, rfl⟩
  · have HD := Lib.hid (show decide (zs = ys) = false from decide_eq_false (fun e => hl (by rw [e])))
    obtain ⟨a1, c1, rfl⟩ := len_form h1
    obtain ⟨a2, c2, rfl⟩ := len_form h2
    have hlb : ((zs.length : Int) != (ys.length : Int)) = true := by rw [bne_iff_ne]; omega
    clear h1 h2 hl
    go_enter Try.func12, Try.ntmps12
    go_wp2
    go_ret
    exact ⟨retB HD.out.symm, 0, rfl⟩

/-- A character out of its fields. -/
def mkC (k : Int) (g : List Int) (s t : ByteArray) (p : Int) : Chr := ⟨k, g, s.data.toList, t.data.toList, p⟩
theorem empty_b (s : ByteArray) : s.toList.isEmpty = decide (s.data.toList = []) := by
  rw [ByteArray.toList_eq]
  cases s.data.toList <;> simp
theorem bytes_b (s : ByteArray) (l : List UInt8) : (s.toList == l) = decide (s.data.toList = l) := by
  rw [ByteArray.toList_eq, Bool.eq_iff_iff]; simp
theorem len_b (g : List Int) : ((g.length : Int) == 0) = decide (g = []) := by
  cases g with
  | nil => rfl
  | cons a l => rw [decide_eq_false (by simp), beq_eq_false_iff_ne]; simp; omega
end Go.Proofs.Ythggoboljkdldaa
