/- The colors that occur: the model's. -/
import Derived.Test.YtclbpjjnhfllkaaDoorSecS
import Derived.Test.YtclbpjjnhfllkaaDoorCir
namespace Go.Proofs.YtclbpjjnhfllkaaDoor
open Go.ChangeShapes Go.WideShapes Go.ChangeAt Go.RowKit Pm

def col4 : List ByteArray := [⟨#[87]⟩, ⟨#[82]⟩, ⟨#[71]⟩, ⟨#[89]⟩]
/-- Does a color occur? -/
def hasC (ps : List Sec) (c : ByteArray) : Bool := ps.any fun p => sB p.2.2 c
/-- The colors that occur among the first k. -/
def colK (ps : List Sec) (k : Nat) : ByteArray := (col4.take k).foldl (fun o c => if hasC ps c then o ++ c else o) ⟨#[]⟩
def colsA (ps : List Sec) : ByteArray := colK ps 4
noncomputable def colsV (ps : List Sec) : ByteArray := if validS ps then colsA ps else ⟨#[]⟩
noncomputable def colsC (ps : List Sec) : Int := if validS ps then 0 else 1
theorem colK_step (ps : List Sec) (k : Nat) (h : k < 4) : colK ps (k + 1) = if hasC ps (col4.getD k e0) then colK ps k ++ col4.getD k e0 else colK ps k := by
  unfold colK
  have h4 : k < col4.length := h
  rw [List.take_succ_eq_append_getElem h4, List.foldl_append]
  simp [h4]
theorem colK_size (ps : List Sec) : ∀ k, k ≤ 4 → (colK ps k).size ≤ k
  | 0, _ => Nat.le_refl _
  | k + 1, h => by
    have ih := colK_size ps k (by omega)
    rw [colK_step ps k (by omega)]
    split
    · rw [ByteArray.size_append]
      have : (col4.getD k e0).size = 1 := by
        match k, h with
        | 0, _ => rfl
        | 1, _ => rfl
        | 2, _ => rfl
        | 3, _ => rfl
      omega
    · omega
theorem col4_size (k : Nat) (h : k < 4) : (col4.getD k e0).size = 1 := by
  match k, h with
  | 0, _ => rfl
  | 1, _ => rfl
  | 2, _ => rfl
  | 3, _ => rfl
theorem hasC_no {ps : List Sec} {c : ByteArray} (h : ∀ i, i < ps.length → sB (ps.getD i sec0).2.2 c = false) : hasC ps c = false := by
  unfold hasC
  rw [List.any_eq_false]
  intro p hp
  obtain ⟨i, hi, rfl⟩ := List.getElem_of_mem hp
  have := h i hi
  rw [sec_getD ps i hi] at this
  simp [this]
theorem hasC_yes {ps : List Sec} {c : ByteArray} {i : Nat} (hi : i < ps.length) (h : sB (ps.getD i sec0).2.2 c = true) : hasC ps c = true := by
  unfold hasC
  rw [List.any_eq_true]
  exact ⟨_, List.getElem_mem hi, by rw [sec_getD ps i hi] at h; exact h⟩
theorem row4 (w : World) : OwnC (w.alloc (.cells #[.string ⟨#[87]⟩, .string ⟨#[82]⟩, .string ⟨#[71]⟩, .string ⟨#[89]⟩] 9)) w.heap.size w.heap.size 4 4 col4 :=
  World.ownsRow_lit w #[.string ⟨#[87]⟩, .string ⟨#[82]⟩, .string ⟨#[71]⟩, .string ⟨#[89]⟩] 4 (Nat.le_refl _) (by unfold maxLen; omega) rfl
theorem scolors_row (a : Option Addr) (c : Nat) (ps : List Sec) (w : World) (hl : ps.length ≤ 12) (hc : ArgSec w a ps.length ps) :
    Calls Tryd.prog 14 #[.slice a ps.length c] w fun e w' => e = .returned (.string (colsA ps)) ∧ Below w.heap.size w w' := by
  have HC := Lib.hid hc
  have HR := Lib.hid (row4 w)
  have HB0 := Lib.hid (show Below w.heap.size w (w.alloc (.cells #[.string ⟨#[87]⟩, .string ⟨#[82]⟩, .string ⟨#[71]⟩, .string ⟨#[89]⟩] 9)) from (Below.refl _ _).alloc (Nat.le_refl _) _)
  clear hc
  go_enter Tryd.func14, Tryd.ntmps14
  go_wp2_with (fail)
  go_loopw [3, 5] (fun o i wr => ∃ (k : Nat), k ≤ 4 ∧ i = .int .i64 k ∧ o = .string (colK ps k) ∧ OwnC wr w.heap.size w.heap.size 4 4 col4 ∧ Below w.heap.size w wr) (fun _ i _ => 4 - (intOf i).toNat)
  case atStart => exact ⟨0, Nat.zero_le _, rfl, rfl, HR.out, HB0.out⟩
  case round =>
    obtain ⟨k, hk, rfl, rfl, ho, hbel⟩ := hrel
    have HO := Lib.hid ho
    have HB := Lib.hid hbel
    by_cases hlt : k < 4
    · have hkn : (k : Int) < 4 := by omega
      have HST := Lib.hid (colK_step ps k hlt)
      have hsz := colK_size ps k hk
      have hsz1 := col4_size k hlt
      have HC4 := Lib.hid (fun w' (h : OwnC w' w.heap.size w.heap.size 4 4 col4) => h.cell k hlt)
      generalize colK ps k = o at *
      generalize col4.getD k e0 = cc at *
      clear ho hbel
      go_wp2_with (fail)
      go_loopw [3, 6] (fun q i wr => ∃ j : Nat, j ≤ ps.length ∧ i = .int .i64 j ∧ q = .string o ∧ (∀ i, i < j → sB (ps.getD i sec0).2.2 cc = false) ∧ OwnC wr w.heap.size w.heap.size 4 4 col4 ∧ Below w.heap.size w wr) (fun _ i _ => ps.length - (intOf i).toNat)
      case atStart => exact ⟨0, Nat.zero_le _, rfl, rfl, fun i hi => by omega, HO.out, HB.out⟩
      case round =>
        obtain ⟨j, hj, rfl, rfl, hno, ho, hbel⟩ := hrel
        have HNO := Lib.hid hno
        have HO2 := Lib.hid ho
        have HB2 := Lib.hid hbel
        clear hno
        by_cases hjn : j < ps.length
        · have hjk : (j : Int) < (ps.length : Int) := by omega
          obtain ⟨b, off, ha, hc⟩ := HC.out.2.resolve_left (by intro e; rw [e] at hjn; simp at hjn)
          subst ha
          have c2 := (SecAt.below (p := ps.getD j sec0) (hc j hjn) hbel).2.2
          clear hc
          have x0 := HC4.out _ ho
          cases hb : sB (ps.getD j sec0).2.2 cc
          · have HN2 := Lib.hid (show ∀ i, i < j + 1 → sB (ps.getD i sec0).2.2 cc = false from fun i hi => by
              by_cases e : i < j
              · exact HNO.out i e
              · obtain rfl : i = j := by omega
                exact hb)
            generalize (ps.getD j sec0).2.2 = s at *
            have hb2 : (s.toList == cc.toList) = false := hb
            clear ho hbel hb
            go_wp2_with (fail)
            go_quiet (fail)
            go_wp2_with (fail)
            go_roundw
            case rel => exact ⟨j + 1, by omega, by go_num, rfl, HN2.out, HO2.out.below (below_drewN (Below.refl _ _) _), below_drewN HB2.out _⟩
            case measure => simp [intOf]; omega
          · have HV := Lib.hid (show colK ps (k + 1) = o ++ cc by rw [HST.out, hasC_yes hjn hb]; rfl)
            generalize (ps.getD j sec0).2.2 = s at *
            have hb2 : (s.toList == cc.toList) = true := hb
            have q1 := fun w => run_string_add_sum (P := Tryd.prog) (w := w) o cc (by omega)
            clear ho hbel hb
            go_wp2_with (fail)
            go_quiet (fail)
            go_wp2_with (fail)
            go_roundw
            case rel => exact ⟨k + 1, by omega, by go_num, by rw [HV.out], HO2.out.below (below_drewN (Below.refl _ _) _), below_drewN HB2.out _⟩
            case measure => simp [intOf]; omega
        · obtain rfl : j = ps.length := by omega
          have HV := Lib.hid (show colK ps (k + 1) = o by rw [HST.out, hasC_no HNO.out]; rfl)
          clear ho hbel
          go_wp2_with (fail)
          go_roundw
          case rel => exact ⟨k + 1, by omega, by go_num, by rw [HV.out], HO2.out, HB2.out⟩
          case measure => simp [intOf]; omega
    · obtain rfl : k = 4 := by omega
      clear ho hbel
      go_wp2
      go_ret
      exact ⟨rfl, HB.out⟩
end Go.Proofs.YtclbpjjnhfllkaaDoor
