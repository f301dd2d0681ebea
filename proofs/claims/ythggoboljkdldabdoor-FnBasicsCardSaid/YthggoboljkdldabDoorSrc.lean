/- The source of numbers: one byte after the other, then numbers of its own. -/
import Derived.Test.YthggoboljkdldabDoorReadL
import Derived.Test.YthggoboljkdldabDoorListL
import Derived.Test.YthggoboljkdldabDoorRootD
import Derived.Laws.BitsAllLaws
import Derived.Deep.QuietTactic
import Derived.BigQuiet
namespace Go.Proofs.YthggoboljkdldabDoor
open Go.ChangeShapes Go.WideShapes Go.ChangeAt Go.RowKit Pm

/-- The source's three fields lie in a block of the call's own. -/
def SrcAt (B : Nat) (w : World) (bs : Nat) (sv : Value) (k : Int) (seed : Int) : Prop :=
  w.ownsRow B 60 1 (.slice (some ⟨bs, 0, none⟩) 3 3) 3 [sv, .int .i64 k, .int .u64 seed]

def NextRet (w0 : World) (bs : Nat) (sv : Value) (k : Nat) (e : Ending) (w' : World) : Prop :=
  ∃ x seed : Int, 0 ≤ x ∧ x ≤ 255 ∧ e = .returned (.int .i64 x) ∧ SrcAt w0.heap.size w' bs sv ((k : Int) + 1) seed ∧ Below w0.heap.size w0 w'

theorem and_255 (a : Int) (h1 : 0 ≤ a) (h2 : a < 18446744073709551616) : 0 ≤ bits .and .u64 a 255 ∧ bits .and .u64 a 255 ≤ 255 := by
  rw [u64_and a 255 h1 h2 (by omega) (by omega)]
  have : a.toNat &&& (255 : Int).toNat ≤ 255 := Nat.and_le_right
  omega

theorem u64_bd (n : Int) : 0 ≤ IntKind.u64.wrap n ∧ IntKind.u64.wrap n < 18446744073709551616 := by
  simp [IntKind.wrap, IntKind.bits, IntKind.signed]; omega

theorem src_step {B : Nat} {w : World} {bs : Nat} {sv : Value} {k seed s2 : Int} (h : SrcAt B w bs sv k seed) (m n : Nat) :
    SrcAt B ((((w.drewN m).setCell ⟨bs, 1, none⟩ (.int .i64 (k + 1))).setCell ⟨bs, 2, none⟩ (.int .u64 s2)).drewN n) bs sv (k + 1) s2 :=
  drew_own n ((((drew_own m h).stored 1 (.int .i64 (k + 1))).1).stored 2 (.int .u64 s2)).1
theorem src_ge {B : Nat} {w : World} {bs : Nat} {sv : Value} {k seed : Int} (h : SrcAt B w bs sv k seed) : B ≤ bs := by
  rcases own_form h with ⟨e, _⟩ | ⟨g, cap, e, hb⟩
  · cases e
  · injection e with e1 _ _; injection e1 with e1; injection e1 with e1 _ _; omega
theorem src_below {B : Nat} {w0 w : World} {bs : Nat} {sv : Value} {k seed s2 : Int} (h : SrcAt B w bs sv k seed) (hb : Below B w0 w) (m n : Nat) :
    Below B w0 ((((w.drewN m).setCell ⟨bs, 1, none⟩ (.int .i64 (k + 1))).setCell ⟨bs, 2, none⟩ (.int .u64 s2)).drewN n) :=
  below_drewN (((below_drewN hb m).setCell (p := ⟨bs, 1, none⟩) (src_ge h) _).setCell (p := ⟨bs, 2, none⟩) (src_ge h) _) n

def BytesIn (zs : List Int) : Prop := ∀ i, i < zs.length → 0 ≤ zs.getD i 0 ∧ zs.getD i 0 ≤ 255

set_option maxRecDepth 100000 in
theorem next_byte (w0 w : World) (bs : Nat) (b off cap : Nat) (zs : List Int) (k : Nat) (seed : Int)
    (hc : ∀ i, i < zs.length → w0.cell? ⟨b, off + i, none⟩ = some (.int .u8 (zs.getD i 0))) (hz : BytesIn zs) (hl : zs.length ≤ 1048576) (hk : k < zs.length)
    (hS : SrcAt w0.heap.size w bs (.slice (some ⟨b, off, none⟩) zs.length cap) k seed) (hb : Below w0.heap.size w0 w) :
    Calls Tryd.prog 35 #[.pointer (some ⟨bs, 0, none⟩)] w (NextRet w0 bs (.slice (some ⟨b, off, none⟩) zs.length cap) k) := by
  have HS := Lib.hid hS
  have f0 := hS.cellAt 0 (by omega)
  have f1 := hS.cellAt 1 (by omega)
  have f2 := hS.cellAt 2 (by omega)
  have z1 := hS.frozenAt 1
  have z2 := hS.frozenAt 2
  simp only [List.getElem?_cons_zero, List.getElem?_cons_succ] at f0 f1 f2
  have hcell := cell_below (hc k hk) hb
  obtain ⟨x0, x1⟩ := hz k hk
  generalize zs.getD k 0 = x at hcell x0 x1
  have HB := Lib.hid hb
  clear hb hS hc hz
  go_enter Tryd.func35, Tryd.ntmps35
  go_wp2_with (fail)
  go_quiet (fail)
  go_wp2_with (fail)
  go_quiet (fail)
  go_wp2_with (fail)
  go_quiet (fail)
  go_wp2
  go_ret
  exact ⟨x, _, x0, x1, rfl, src_step HS.out _ _, src_below HS.out HB.out _ _⟩

set_option maxRecDepth 100000 in
theorem next_none (w0 w : World) (bs : Nat) (a : Option Addr) (len cap : Nat) (k : Nat) (seed : Int) (hk : len ≤ k) (hk2 : k ≤ 1000000000)
    (hS : SrcAt w0.heap.size w bs (.slice a len cap) k seed) (hb : Below w0.heap.size w0 w) :
    Calls Tryd.prog 35 #[.pointer (some ⟨bs, 0, none⟩)] w (NextRet w0 bs (.slice a len cap) k) := by
  have HS := Lib.hid hS
  have f0 := hS.cellAt 0 (by omega)
  have f1 := hS.cellAt 1 (by omega)
  have f2 := hS.cellAt 2 (by omega)
  have z1 := hS.frozenAt 1
  have z2 := hS.frozenAt 2
  simp only [List.getElem?_cons_zero, List.getElem?_cons_succ] at f0 f1 f2
  have HB := Lib.hid hb
  clear hb hS
  go_enter Tryd.func35, Tryd.ntmps35
  go_wp2_with (fail)
  go_quiet (fail)
  go_wp2_with (fail)
  go_quiet (fail)
  go_wp2
  go_ret
  obtain ⟨q0, q1⟩ := u64_bd (IntKind.u64.wrap (IntKind.u64.wrap (seed * 6364136223846793005)) + 1442695040888963407)
  obtain ⟨y0, y1⟩ := and_255 (IntKind.u64.wrap (IntKind.u64.wrap (IntKind.u64.wrap (seed * 6364136223846793005)) + 1442695040888963407) / 1099511627776) (by omega) (by omega)
  have hw := IntWalk.wrap64_in _ (show -9223372036854775808 ≤ bits .and .u64 (IntKind.u64.wrap (IntKind.u64.wrap (IntKind.u64.wrap (seed * 6364136223846793005)) + 1442695040888963407) / 1099511627776) 255 ∧ _ from ⟨by omega, by omega⟩)
  exact ⟨_, _, by rw [hw]; exact y0, by rw [hw]; exact y1, rfl, src_step HS.out _ _, src_below HS.out HB.out _ _⟩

/-- A number of the source's, wherever it stands. -/
theorem next_any (w0 w : World) (bs : Nat) (sv : Value) (zs : List Int) (k : Nat) (seed : Int) (hA : ArgInts .u8 w0 sv zs) (hz : BytesIn zs) (hl : zs.length ≤ 1048576) (hk2 : k ≤ 1000000000)
    (hS : SrcAt w0.heap.size w bs sv k seed) (hb : Below w0.heap.size w0 w) :
    Calls Tryd.prog 35 #[.pointer (some ⟨bs, 0, none⟩)] w (NextRet w0 bs sv k) := by
  by_cases hk : k < zs.length
  · rcases hA with ⟨rfl, _⟩ | ⟨rfl, rfl⟩ | ⟨b, off, cap, rfl, _, hc⟩
    · simp at hk
    · simp at hk
    · exact next_byte w0 w bs b off cap zs k seed hc hz hl hk hS hb
  · obtain ⟨a, c, rfl⟩ := hA.len
    exact next_none w0 w bs a zs.length c k seed (by omega) hk2 hS hb

def PickRet (w0 : World) (bs : Nat) (sv : Value) (k : Nat) (n : Int) (e : Ending) (w' : World) : Prop :=
  ∃ x seed : Int, 0 ≤ x ∧ x < n ∧ e = .returned (.int .i64 x) ∧ SrcAt w0.heap.size w' bs sv ((k + 2 : Nat) : Int) seed ∧ Below w0.heap.size w0 w'

theorem pick_any (w0 w : World) (bs : Nat) (sv : Value) (zs : List Int) (k : Nat) (seed n : Int) (hA : ArgInts .u8 w0 sv zs) (hz : BytesIn zs) (hl : zs.length ≤ 1048576) (hk2 : k ≤ 1000000) (hn : 200 < n) (hn2 : n ≤ 1000000)
    (hS : SrcAt w0.heap.size w bs sv k seed) (hb : Below w0.heap.size w0 w) :
    Calls Tryd.prog 21 #[.pointer (some ⟨bs, 0, none⟩), .int .i64 n] w (PickRet w0 bs sv k n) := by
  have H1 := Lib.hid (next_any w0 w bs sv zs k seed hA hz hl (by omega) hS hb)
  have H2 := Lib.hid (fun w2 s2 hS2 hb2 => next_any w0 w2 bs sv zs (k + 1) s2 hA hz hl (by omega) hS2 hb2)
  clear hA hz hl hS hb
  go_enter Tryd.func21, Tryd.ntmps21
  go_wp2_with (go_at_call 35; refine H1.out.mono ?_; rintro e w2 ⟨x, s2, x0, x1, rfl, hS2, hb2⟩; refine Hid.out ?_)
  refine Lib.hid ?_
  have H3 := Lib.hid (H2.out w2 s2 hS2 hb2)
  clear hS2 hb2
  go_wp2_with (go_at_call 35; refine H3.out.mono ?_; rintro e w3 ⟨y, s3, y0, y1, rfl, hS3, hb3⟩; refine Hid.out ?_)
  refine Lib.hid ?_
  have HS3 := Lib.hid hS3
  have HB3 := Lib.hid hb3
  clear hS3 hb3
  go_wp2_with (fail)
  go_ret
  exact ⟨(x * 256 + y) % n, s3, Int.emod_nonneg _ (by omega), Int.emod_lt_of_pos _ (by omega), rfl, HS3.out, HB3.out⟩

theorem from_any (w : World) (sv : Value) (h : ∃ a l c, sv = .slice a l c) :
    Calls Tryd.prog 20 #[sv] w fun e w' => e = .returned (.pointer (some ⟨w.heap.size, 0, none⟩)) ∧ SrcAt w.heap.size w' w.heap.size sv ((0 : Nat) : Int) 0 ∧ Below w.heap.size w w' := by
  obtain ⟨a, l, c, rfl⟩ := h
  go_enter Tryd.func20, Tryd.ntmps20
  go_wp2
  go_ret
  exact ⟨rfl, World.ownsRow_lit w #[.slice a l c, .int .i64 0, .int .u64 0] 3 (Nat.le_refl _) (by unfold maxLen; omega) rfl, (Below.refl _ _).alloc (Nat.le_refl _) _⟩

theorem mul_59 {a c : Int} (a0 : 0 ≤ a) (a1 : a < 60000) (c0 : 0 ≤ c) (c1 : c < 60000) : 0 ≤ a * c ∧ a * c ≤ 3600000000 := by
  have h1 := Int.mul_nonneg a0 c0
  have h2 : a * c ≤ 60000 * 60000 := Int.mul_le_mul (by omega) (by omega) c0 (by omega)
  exact ⟨h1, by omega⟩

def NumsRet (w : World) (e : Ending) (w' : World) : Prop :=
  ∃ a b : Int, -100000 ≤ a ∧ a ≤ 3600000000 ∧ 1 ≤ b ∧ b ≤ 5000 ∧ e = .returned (.tuple #[.int .i64 a, .int .i64 b]) ∧ Below w.heap.size w w'

theorem numbers_any (w : World) (sv : Value) (zs : List Int) (hA : ArgInts .u8 w sv zs) (hz : BytesIn zs) (hl : zs.length ≤ 1048576) :
    Calls Tryd.prog 6 #[sv] w (NumsRet w) := by
  have HP := Lib.hid (fun w1 bs k s n hk h1 h2 hS hB => pick_any w w1 bs sv zs k s n hA hz hl hk h1 h2 hS hB)
  have HF := Lib.hid (from_any w sv (by obtain ⟨a, c, h⟩ := hA.len; exact ⟨a, _, c, h⟩))
  clear hA hz hl
  go_enter Tryd.func6, Tryd.ntmps6
  go_wp2_with (go_at_call 20; refine HF.out.mono ?_; rintro e w1 ⟨rfl, hS1, hb1⟩; refine Hid.out ?_)
  refine Lib.hid ?_
  have P1 := Lib.hid (HP.out w1 w.heap.size 0 0 60000 (by omega) (by omega) (by omega) hS1 hb1)
  clear hS1 hb1
  go_wp2_with (go_at_call 21; refine P1.out.mono ?_; rintro e w2 ⟨a, s2, a0, a1, rfl, hS2, hb2⟩; refine Hid.out ?_)
  refine Lib.hid ?_
  have P2 := Lib.hid (HP.out w2 w.heap.size _ s2 60000 (by omega) (by omega) (by omega) hS2 hb2)
  clear hS2 hb2
  go_wp2_with (go_at_call 21; refine P2.out.mono ?_; rintro e w3 ⟨c, s3, c0, c1, rfl, hS3, hb3⟩; refine Hid.out ?_)
  refine Lib.hid ?_
  have P3 := Lib.hid (HP.out w3 w.heap.size _ s3 5000 (by omega) (by omega) (by omega) hS3 hb3)
  obtain ⟨m0, m1⟩ := mul_59 a0 a1 c0 c1
  clear hS3 hb3
  go_wp2_with (go_at_call 21; refine P3.out.mono ?_; rintro e w4 ⟨d, s4, d0, d1, rfl, hS4, hb4⟩; refine Hid.out ?_)
  refine Lib.hid ?_
  go_wp2_with (fail)
  go_ret2
  exact ⟨a * c - 100000, 1 + d, by omega, by omega, by omega, by omega, rfl, hb4⟩
end Go.Proofs.YthggoboljkdldabDoor
