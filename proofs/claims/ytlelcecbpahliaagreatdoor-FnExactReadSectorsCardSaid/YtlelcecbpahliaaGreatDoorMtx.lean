/- The texts that the laws put into a row of strings. -/
import Derived.Test.YtlelcecbpahliaaGreatDoorDecM
import Derived.Test.YtlelcecbpahliaaGreatDoorKit
import Derived.Laws.AppendOwn
import Derived.OwnWalk
import Derived.Laws.OwnMore
import Derived.Laws.IdiomStrings
import Derived.Deep.AppendLies
import Derived.Lib.OwnKind
import Derived.LoopTactic
namespace Go.Proofs.YtlelcecbpahliaaGreatDoor
open Go.ChangeShapes Go.WideShapes Go.ChangeAt Go.RowKit Pm

/-- The k-th text. -/
def mtx (k : Nat) : ByteArray := ⟨(109 :: (low k).reverse).toArray⟩

theorem mx_cells (wr : World) (x : Value) (T : TypeId) : ∀ j u, [x][j]? = some u → (wr.alloc (.cells #[x] T)).cell? ((⟨wr.heap.size, 0, none⟩ : Addr).add j) = some u := by
  intro j u hj
  match j, hj with
  | 0, hj => simp at hj; subst hj; simp [Addr.add]
theorem mx_size (s : ByteArray) : s.data.toList.length = s.size := by simp
theorem mx_ret {s u : ByteArray} (h : s = u) : Ending.returned (.string s) = .returned (.string u) := by rw [h]
theorem mx_one (w : World) (c : UInt8) (T : TypeId) : ∀ j (hj : j < [c].length), (w.alloc (.cells #[Value.int .u8 (c.toNat : Int)] T)).cell? (({ block := w.heap.size, off := 0, spot := none } : Addr).add j) = some (.int .u8 ([c][j].toNat : Int)) := by
  intro j hj
  obtain rfl : j = 0 := by simp at hj; omega
  exact mx_cells w (.int .u8 (c.toNat : Int)) T 0 _ rfl

set_option maxRecDepth 100000 in
theorem mtx_any (k : Nat) (w : World) (h0 : 1 ≤ k) (h1 : k ≤ 4194304) :
    Calls Tryz.prog 31 #[.int .i64 k] w fun e w' => e = .returned (.string (mtx k)) ∧ Below w.heap.size w w' := by
  have HL := Lib.hid (low_len 64 k (by omega))
  go_enter Tryz.func31, Tryz.ntmps31
  go_wp2_with (fail)
  go_loopw [0, 3] (fun q o wr => ∃ (z : Nat) (u : ByteArray), q = .int .i64 z ∧ o = .string u ∧ z ≤ k ∧ (low z).reverse ++ u.data.toList = (low k).reverse ∧ Below w.heap.size w wr) (fun q _ _ => (intOf q).toNat)
  case atStart => exact ⟨k, ⟨#[]⟩, rfl, rfl, Nat.le_refl _, by simp, Below.refl _ _⟩
  case round =>
    obtain ⟨z, u, rfl, rfl, hz, hu, hbel⟩ := hrel
    have hsz : u.size ≤ 64 := by
      have h2 := congrArg List.length hu
      have h3 := HL.out
      rw [List.length_append, List.length_reverse, List.length_reverse, mx_size] at h2
      omega
    have HU := Lib.hid hu
    have HB := Lib.hid hbel
    clear hu hbel
    by_cases hz0 : z = 0
    · subst hz0
      have hfin : (⟨#[109]⟩ : ByteArray) ++ u = mtx k := by
        refine WideShapes.bytes_inj ?_
        have h2 := HU.out
        rw [low_zero, List.reverse_nil, List.nil_append] at h2
        rw [ByteArray.data_append, Array.toList_append, h2]
        rfl
      have HF := Lib.hid hfin
      clear hfin
      go_wp2
      go_ret
      exact ⟨mx_ret HF.out, HB.out⟩
    · obtain ⟨c, hc⟩ : ∃ c : UInt8, c = UInt8.ofNat (48 + z % 10) := ⟨_, rfl⟩
      have hcv := run_convert_bytes_back (P := Tryz.prog) (wr.alloc (.cells #[Value.int .u8 (c.toNat : Int)] 5)) 35 9 5 ⟨wr.heap.size, 0, none⟩ 1 [c] Tryz.underlying35 Tryz.underlying5 Tryz.underlying9 (mx_one wr c _)
      have hcd : (c.toNat : Int) = 48 + (z : Int) % 10 := by rw [hc, digit_val]; omega
      have HST := Lib.hid (show (low (z / 10)).reverse ++ ((⟨[c].toArray⟩ : ByteArray) ++ u).data.toList = (low k).reverse by
        rw [← HU.out, low_pos hz0, List.reverse_cons, ← hc, ByteArray.data_append, Array.toList_append]
        simp)
      rw [hcd, show [c].length = 1 from rfl] at hcv
      clear hcd hc
      go_wp2
      go_roundw
      case rel => exact ⟨z / 10, _, by go_num, rfl, by omega, HST.out, HB.out.alloc HB.out.size _⟩
      case measure => simp [intOf]; omega
end Go.Proofs.YtlelcecbpahliaaGreatDoor
