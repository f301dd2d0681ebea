/- The draws of points that are valid, mostly, and of angles. -/
import Derived.Test.YtochniaofmeheaaDoorDrwP
namespace Go.Proofs.YtochniaofmeheaaDoor
open Go.ChangeShapes Go.WideShapes Go.ChangeAt Go.RowKit Pm

set_option maxRecDepth 100000 in
set_option maxHeartbeats 1000000 in
theorem bent_draw (w0 w : World) (bs : Nat) (sv : Value) (zs : List Int) (k : Nat) (hk : k ≤ 700000) (h : Src w0 bs sv zs k w) :
    Calls Tryd.prog 25 #[.pointer (some ⟨bs, 0, none⟩)] w (Drawn (PtP (-1) 200001) w0 bs sv zs (k + 18) w) := by
  have hlt := h.lt
  have hw0 := h.bel.size
  have HS := Lib.hid h
  clear h
  go_enter Tryd.func25, Tryd.ntmps25
  go_wp2_with (go_at_call 44; refine (pt_draw w0 _ bs sv zs k (by omega) (HS.out.alloc _)).mono ?_; rintro e w1 ⟨_, ⟨x, y, x0, x1, y0, y1, rfl⟩, rfl, hS1, ho1⟩; refine Hid.out ?_)
  refine Lib.hid ?_
  have S1 := Lib.hid hS1
  have V1 := Lib.hid ((Var2.new w (.int .i64 0) (.int .i64 0) 25).only (by omega) ho1)
  have O1 := Lib.hid (((Only.refl bs w).alloc _).trans ho1)
  have L1 : w.heap.size < w1.heap.size := V1.out.lt
  have B1 : bs < w1.heap.size := hS1.lt
  obtain ⟨c0, c1, z0, z1⟩ := V1.out
  clear hS1 ho1
  go_wp2_with (go_at_call 26; refine (pick_draw w0 _ bs sv zs _ 30 (by omega) (by omega) (by omega) (S1.out.alloc _)).mono ?_; rintro e w2 ⟨_, ⟨c, c0', c1', rfl⟩, rfl, hS2, ho2⟩; refine Hid.out ?_)
  refine Lib.hid ?_
  have S2 := Lib.hid hS2
  have V2 := Lib.hid ((V1.out.alloc _).only (by omega) ho2)
  have P2 := Lib.hid ((Var2.new w1 (.int .i64 x) (.int .i64 y) 25).only (by omega) ho2)
  have O2 := Lib.hid ((O1.out.alloc _).trans ho2)
  have L2 : w.heap.size < w2.heap.size := V2.out.lt
  have K2 : w1.heap.size < w2.heap.size := P2.out.lt
  have B2 : bs < w2.heap.size := hS2.lt
  clear hS2 ho2 c0 c1 z0 z1
  by_cases e0 : c = 0
  · subst e0
    obtain ⟨c0, c1, z0, z1⟩ := V2.out
    obtain ⟨d0, d1, u0, u1⟩ := P2.out
    go_wp2_with (go_at_call 45; refine (among_draw w0 _ bs sv zs _ _ _ [0, -1, 200000, 200001] (by omega) (by simp) (by simp) (by omega) (lit_at _ _ _ _ (by simp)) (S2.out.alloc _)).mono ?_; rintro e w3 ⟨_, ⟨m, hm, rfl⟩, rfl, hS3, ho3⟩; refine Hid.out ?_)
    refine Lib.hid ?_
    obtain ⟨m0, m1⟩ : -1 ≤ m ∧ m ≤ 200001 := by simp at hm; omega
    have S3 := Lib.hid hS3
    have V3 := Lib.hid ((V2.out.alloc _).only (by omega) ho3)
    have P3 := Lib.hid ((P2.out.alloc _).only (by omega) ho3)
    have O3 := Lib.hid ((O2.out.alloc _).trans ho3)
    have L3 : w.heap.size < w3.heap.size := V3.out.lt
    have K3 : w1.heap.size < w3.heap.size := P3.out.lt
    obtain ⟨c0, c1, z0, z1⟩ := V3.out
    obtain ⟨d0, d1, u0, u1⟩ := P3.out
    clear hS3 ho3 hm
    go_wp2_with (fail)
    refine bodyPost_ret (v := .agg #[.int .i64 m, .int .i64 y]) (by simp [results, Tryd.results25, go_sem, *]) rfl ?_
    exact ⟨_, ⟨m, y, by omega, by omega, by omega, by omega, rfl⟩, rfl, (((S3.out.more (by omega)).put (by omega) (by omega) _).put (by omega) (by omega) _).put (by omega) (by omega) _, (((O3.out).put (.inr (by omega)) _).put (.inr (by omega)) _).put (.inr (by omega)) _⟩
  · have e0' : (c == 0) = false := by simp [e0]
    by_cases e1 : c = 1
    · subst e1
      obtain ⟨c0, c1, z0, z1⟩ := V2.out
      obtain ⟨d0, d1, u0, u1⟩ := P2.out
      go_wp2_with (go_at_call 45; refine (among_draw w0 _ bs sv zs _ _ _ [0, -1, 200000, 200001] (by omega) (by simp) (by simp) (by omega) (lit_at _ _ _ _ (by simp)) (S2.out.alloc _)).mono ?_; rintro e w3 ⟨_, ⟨m, hm, rfl⟩, rfl, hS3, ho3⟩; refine Hid.out ?_)
      refine Lib.hid ?_
      obtain ⟨m0, m1⟩ : -1 ≤ m ∧ m ≤ 200001 := by simp at hm; omega
      have S3 := Lib.hid hS3
      have V3 := Lib.hid ((V2.out.alloc _).only (by omega) ho3)
      have P3 := Lib.hid ((P2.out.alloc _).only (by omega) ho3)
      have O3 := Lib.hid ((O2.out.alloc _).trans ho3)
      have L3 : w.heap.size < w3.heap.size := V3.out.lt
      have K3 : w1.heap.size < w3.heap.size := P3.out.lt
      obtain ⟨c0, c1, z0, z1⟩ := V3.out
      obtain ⟨d0, d1, u0, u1⟩ := P3.out
      clear hS3 ho3 hm
      go_wp2_with (fail)
      refine bodyPost_ret (v := .agg #[.int .i64 x, .int .i64 m]) (by simp [results, Tryd.results25, go_sem, *]) rfl ?_
      exact ⟨_, ⟨x, m, by omega, by omega, by omega, by omega, rfl⟩, rfl, (((S3.out.more (by omega)).put (by omega) (by omega) _).put (by omega) (by omega) _).put (by omega) (by omega) _, (((O3.out).put (.inr (by omega)) _).put (.inr (by omega)) _).put (.inr (by omega)) _⟩
    · have e1' : (c == 1) = false := by simp [e1]
      obtain ⟨c0, c1, z0, z1⟩ := V2.out
      obtain ⟨d0, d1, u0, u1⟩ := P2.out
      go_wp2_with (fail)
      refine bodyPost_ret (v := .agg #[.int .i64 x, .int .i64 y]) (by simp [results, Tryd.results25, go_sem, *]) rfl ?_
      exact ⟨_, ⟨x, y, by omega, by omega, by omega, by omega, rfl⟩, rfl, ((S2.out.more (by omega)).put (by omega) (by omega) _).put (by omega) (by omega) _, ((O2.out).put (.inr (by omega)) _).put (.inr (by omega)) _⟩


def AngP (v : Value) : Prop := ∃ x : Int, -9223372036854775808 ≤ x ∧ x ≤ 9223372036854775807 ∧ v = .int .i64 x
set_option maxRecDepth 100000 in
theorem angle_draw (w0 w : World) (bs : Nat) (sv : Value) (zs : List Int) (k : Nat) (hk : k ≤ 700000) (h : Src w0 bs sv zs k w) :
    Calls Tryd.prog 38 #[.pointer (some ⟨bs, 0, none⟩)] w (Drawn (AngP) w0 bs sv zs (k + 4) w) := by
  have hlt := h.lt
  have hw0 := h.bel.size
  have HS := Lib.hid h
  clear h
  go_enter Tryd.func38, Tryd.ntmps38
  go_wp2_with (go_at_call 54; refine (one_draw w0 _ bs sv zs _ 4 (by omega) (by omega) (by omega) HS.out).mono ?_; rintro e w1 ⟨_, ⟨u, rfl⟩, rfl, hS1, ho1⟩; refine Hid.out ?_)
  refine Lib.hid ?_
  have S1 := Lib.hid hS1
  have O1 := Lib.hid ho1
  have B1 : bs < w1.heap.size := hS1.lt
  clear hS1 ho1
  cases u
  · go_wp2_with (go_at_call 26; refine (pick_draw w0 _ bs sv zs _ 720 (by omega) (by omega) (by omega) S1.out).mono ?_; rintro e w2 ⟨_, ⟨a, a0, a1, rfl⟩, rfl, hS2, ho2⟩; refine Hid.out ?_)
    refine Lib.hid ?_
    have S2 := Lib.hid hS2
    have O2 := Lib.hid (O1.out.trans ho2)
    clear hS2 ho2
    go_wp2_with (fail)
    go_ret
    exact ⟨_, ⟨a - 360, by omega, by omega, rfl⟩, rfl, S2.out, O2.out⟩
  · go_wp2_with (go_at_call 45; refine (among_draw w0 _ bs sv zs _ _ _ [0, 90, 180, 270, 360, -90, 450, 9223372036854775807, -9223372036854775808] (by omega) (by simp) (by simp) (by omega) (lit_at _ _ _ _ (by simp)) (S1.out.alloc _)).mono ?_; rintro e w2 ⟨_, ⟨m, hm, rfl⟩, rfl, hS2, ho2⟩; refine Hid.out ?_)
    refine Lib.hid ?_
    have hm' : -9223372036854775808 ≤ m ∧ m ≤ 9223372036854775807 := by simp at hm; omega
    have S2 := Lib.hid hS2
    have O2 := Lib.hid ((O1.out.alloc _).trans ho2)
    have HM := Lib.hid hm'
    clear hS2 ho2 hm hm'
    go_wp2_with (fail)
    go_ret
    exact ⟨_, ⟨m, HM.out.1, HM.out.2, rfl⟩, rfl, S2.out, O2.out⟩
end Go.Proofs.YtochniaofmeheaaDoor
