/- A drawn text of letters and blanks: it can be sent. -/
import Derived.Test.YtgnajfdcbpfdjaaDoorDrwX
import Derived.Test.YtgnajfdcbpfdjaaDoorFnd
import Derived.Test.YtgnajfdcbpfdjaaDoorSplX
import Derived.LoopTactic
namespace Go.Proofs.YtgnajfdcbpfdjaaDoor
open Go.ChangeShapes Go.WideShapes Go.ChangeAt Go.RowKit Pm

/-- A beginning of a text that can be sent; p: a letter must follow. -/
def Opn (l : List UInt8) (p : Bool) : Prop := ∀ m, okF p m = true → okF true (l ++ m) = true
theorem Opn.start : Opn [] true := fun _ h => h
theorem Opn.cap {l : List UInt8} {p : Bool} (h : Opn l p) {c : UInt8} (hc : capB c = true) (h32 : c ≠ 32) : Opn (l ++ [c]) false := by
  intro m hm
  rw [List.append_assoc]
  refine h _ ?_
  rw [List.singleton_append, okF_cons, if_neg h32, hc, hm]; rfl
theorem Opn.blank {l : List UInt8} (h : Opn l false) : Opn (l ++ [32]) true := by
  intro m hm
  rw [List.append_assoc]
  refine h _ ?_
  rw [List.singleton_append, okF_cons, if_pos rfl, hm]; rfl
theorem Opn.done {l : List UInt8} (h : Opn l false) : okF true l = true := by
  have := h [] rfl
  rwa [List.append_nil] at this

theorem cap_of (x : Int) (h0 : 0 ≤ x) (h1 : x < 26) : ∃ c : UInt8, (c.toNat : Int) = 65 + x ∧ capB c = true ∧ c ≠ 32 := by
  obtain ⟨k, rfl⟩ := Int.eq_ofNat_of_zero_le h0
  have hk : k < 26 := by omega
  have hn : (UInt8.ofNat (65 + k)).toNat = 65 + k := by rw [UInt8.toNat_ofNat']; omega
  refine ⟨UInt8.ofNat (65 + k), by omega, ?_, fun e => ?_⟩
  · unfold capB; rw [hn]; simp; omega
  · have := congrArg UInt8.toNat e
    rw [hn] at this
    simp at this
    omega

theorem cat_t (A B : List UInt8) : (⟨A.toArray⟩ : ByteArray) ++ (⟨B.toArray⟩ : ByteArray) = ⟨(A ++ B).toArray⟩ := by
  apply ByteArray.ext
  simp
theorem ret_vs {a b : ByteArray} (h : a = b) : Value.string a = .string b := by rw [h]
/-- A text that was drawn: it can be sent. -/
def TextP (v : Value) : Prop := ∃ l : List UInt8, okF true l = true ∧ l.length ≤ 12 ∧ v = .string ⟨l.toArray⟩

set_option maxHeartbeats 2000000 in
set_option maxRecDepth 100000 in
theorem r8text_any (w : World) (sv : Value) (zs : List Int) (hA : ArgIn .u8 w sv zs) (hz : BytesAre zs) (hl : zs.length ≤ 1048576) :
    Calls Tryd.prog 23 #[sv] w fun e w' => ∃ l : List UInt8, okF true l = true ∧ l.length ≤ 12 ∧ e = .returned (.string ⟨l.toArray⟩) ∧ Below w.heap.size w w' := by
  have HN := Lib.hid (from_new w sv zs hA hz hl)
  clear hA hz hl
  go_enter Tryd.func23, Tryd.ntmps23
  go_wp2_with (go_at_call 49; refine HN.out.mono ?_; rintro e w1 ⟨rfl, hS, hb⟩; refine Hid.out ?_)
  refine Lib.hid ?_
  have HS := Lib.hid hS
  clear hS hb
  go_wp2_with (go_at_call 50; refine (pick_draw w _ _ sv zs 0 5 (by decide) (by decide) (by decide) HS.out).mono ?_; rintro e w2 ⟨_, ⟨x, x0, x1, rfl⟩, rfl, hS2, ho2⟩; refine Hid.out ?_)
  refine Lib.hid ?_
  replace HS := Lib.hid hS2
  clear hS2 ho2
  obtain ⟨K, eK⟩ : ∃ K : Nat, (K : Int) = 1 + x := ⟨(1 + x).toNat, by omega⟩
  have hK : K ≤ 5 := by omega
  have hK1 : 1 ≤ K := by omega
  have EK := Lib.hid eK
  clear eK
  go_wp2_with (fail)
  go_loopw [4, 5] (fun a b wr => ∃ (k : Nat) (l : List UInt8) (p : Bool) (q : Nat), k ≤ 5 ∧ a = .string ⟨l.toArray⟩ ∧ b = .int .i64 k ∧ q + 4 * k ≤ 100 ∧ Hid (Opn l p) ∧ (k = 0 → p = false) ∧ l.length + 2 * k ≤ 10 ∧ Hid (Src w w.heap.size sv zs q wr)) (fun _ b _ => (intOf b).toNat)
  case atStart => exact ⟨K, [], true, 2, hK, rfl, ret_v (by have := EK.out; omega), by omega, Lib.hid Opn.start, by omega, by simp; omega, Lib.hid (HS.out.more (by omega))⟩
  case round =>
    clear HS
    obtain ⟨k, l, p, q, hk, rfl, rfl, hq, HO, hp, hlen, HS⟩ := hrel
    by_cases h0 : 0 < k
    · have hki : 0 < (k : Int) := by omega
      have HO0 := HO
      go_wp2_with (go_at_call 50; refine (pick_draw w _ _ sv zs q 26 (by omega) (by decide) (by decide) HS.out).mono ?_; rintro e w2 ⟨_, ⟨x, x0, x1, rfl⟩, rfl, hS2, ho2⟩; refine Hid.out ?_)
      refine Lib.hid ?_
      obtain ⟨c, hc, hcap, h32⟩ := cap_of x x0 x1
      have HC := Lib.hid (HO.out.cap hcap h32)
      replace HS := Lib.hid hS2
      have hcb : ((c.toNat : Int)) ≤ 255 := by have := c.toNat_lt; omega
      have hc0 : 0 ≤ ((c.toNat : Int)) := by omega
      have hcv := fun W => conv_one W c (65 + x) hc.symm
      clear hcap h32 HO HO0 hS2 ho2
      by_cases h1 : 1 < k
      · have hk1 : 1 < (k : Int) := by omega
        go_wp2_with (go_at_call 51; refine (one_draw w _ _ sv zs (q + 2) 4 (by omega) (by decide) (by decide) (HS.out.alloc _)).mono ?_; rintro e w3 ⟨_, ⟨b, rfl⟩, rfl, hS3, ho3⟩; refine Hid.out ?_)
        refine Lib.hid ?_
        replace HS := Lib.hid hS3
        clear hS3 ho3
        cases b
        · go_wp2_with (fail)
          go_round
          case rel => exact ⟨k - 1, l ++ [c], false, q + 4, by omega, ret_vs (cat_t l [c]), ret_v (by omega), by omega, HC, fun _ => rfl, by simp; omega, HS⟩
          case measure => simp only [intOf]; omega
        · go_wp2_with (fail)
          go_round
          case rel => exact ⟨k - 1, l ++ [c] ++ [32], true, q + 4, by omega, ret_vs ((congrArg (· ++ (⟨[32].toArray⟩ : ByteArray)) (cat_t l [c])).trans (cat_t (l ++ [c]) [32])), ret_v (by omega), by omega, Lib.hid HC.out.blank, fun h => by omega, by simp; omega, HS⟩
          case measure => simp only [intOf]; omega
      · have hk1 : ¬ 1 < (k : Int) := by omega
        go_wp2_with (fail)
        go_round
        case rel => exact ⟨k - 1, l ++ [c], false, q + 2, by omega, ret_vs (cat_t l [c]), ret_v (by omega), by omega, HC, fun _ => rfl, by simp; omega, Lib.hid (HS.out.alloc _)⟩
        case measure => simp only [intOf]; omega
    · obtain rfl : k = 0 := by omega
      have hp0 := hp rfl
      subst hp0
      go_wp2_with (fail)
      go_ret
      exact ⟨l, HO.out.done, by omega, rfl, HS.out.bel⟩
end Go.Proofs.YtgnajfdcbpfdjaaDoor
