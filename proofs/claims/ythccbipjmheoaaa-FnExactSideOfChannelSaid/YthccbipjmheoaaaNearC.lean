/- The comparison of two segments by their distance from a place. -/
import Derived.Test.YthccbipjmheoaaaColI
import Derived.Test.YthccbipjmheoaaaCmpI
namespace Go.Proofs.Ythccbipjmheoaaa
open Go.ChangeShapes Go.WideShapes Go.ChangeAt Go.RowKit Pm

set_option maxRecDepth 100000 in
set_option maxHeartbeats 1000000 in
theorem nearc_any (a b c d x y a' b' c' d' x' y' px py : Int) (P : Nat) (w : World) (hp0 : w.cell? ⟨P, 0, none⟩ = some (.int .i64 px)) (hp1 : w.cell? ⟨P, 1, none⟩ = some (.int .i64 py)) :
    Calls Try.prog 86 #[.agg #[.int .i64 a, .int .i64 b, .int .i64 c, .int .i64 d, .int .i64 x, .int .i64 y], .agg #[.int .i64 a', .int .i64 b', .int .i64 c', .int .i64 d', .int .i64 x', .int .i64 y'], .pointer (some ⟨P, 0, none⟩)] w fun e w' => e = .returned (.int .i64 (cmpV (gpV (a, b) (c, d) (px, py)) (gpV (a', b') (c', d') (px, py)))) ∧ Below w.heap.size w w' := by
  have HD := Lib.hid (fun a b c d x y w' => disto_any a b c d x y px py w')
  have HC := Lib.hid (fun x y w' => (ccmp_any x y w').mono (R' := fun e w'' => e = .returned (.int .i64 (cmpV x y)) ∧ Below w'.heap.size w' w'') fun _ _ ⟨he, hw⟩ => ⟨he, by rw [hw]; exact Below.refl _ _⟩)
  generalize hg1 : gpV (a, b) (c, d) (px, py) = g1 at *
  generalize hg2 : gpV (a', b') (c', d') (px, py) = g2 at *
  have H1 := Lib.hid hg1
  have H2 := Lib.hid hg2
  have D1 := Lib.hid (fun w' => by have := HD.out a b c d x y w'; rw [H1.out] at this; exact this)
  have D2 := Lib.hid (fun w' => by have := HD.out a' b' c' d' x' y' w'; rw [H2.out] at this; exact this)
  clear hg1 hg2
  go_enter Try.func86, Try.ntmps86
  go_wp2_with (fail)
  obtain ⟨W1, hW1⟩ : ∃ W1, W1 = ((w.alloc (.cells #[.int .i64 a, .int .i64 b, .int .i64 c, .int .i64 d, .int .i64 x, .int .i64 y] 79)).alloc (.cells #[.int .i64 a', .int .i64 b', .int .i64 c', .int .i64 d', .int .i64 x', .int .i64 y'] 79)) := ⟨_, rfl⟩
  have bA : BlkAt W1 w.heap.size #[.int .i64 a, .int .i64 b, .int .i64 c, .int .i64 d, .int .i64 x, .int .i64 y] 79 := by subst hW1; exact (BlkAt.new w _ _).alloc _
  have bB : BlkAt W1 (w.heap.size + 1) #[.int .i64 a', .int .i64 b', .int .i64 c', .int .i64 d', .int .i64 x', .int .i64 y'] 79 := by
    subst hW1
    have h := BlkAt.new (w.alloc (.cells #[.int .i64 a, .int .i64 b, .int .i64 c, .int .i64 d, .int .i64 x, .int .i64 y] 79)) #[.int .i64 a', .int .i64 b', .int .i64 c', .int .i64 d', .int .i64 x', .int .i64 y'] 79
    rw [World.size_alloc] at h
    exact h
  have hB : Below w.heap.size w W1 := by subst hW1; go_grown
  rw [← hW1]
  clear hW1
  obtain ⟨S, hS⟩ : ∃ S : World → Prop, S = fun w' => BlkAt w' w.heap.size #[.int .i64 a, .int .i64 b, .int .i64 c, .int .i64 d, .int .i64 x, .int .i64 y] 79 ∧ BlkAt w' (w.heap.size + 1) #[.int .i64 a', .int .i64 b', .int .i64 c', .int .i64 d', .int .i64 x', .int .i64 y'] 79 ∧ w'.cell? ⟨P, 0, none⟩ = some (.int .i64 px) ∧ w'.cell? ⟨P, 1, none⟩ = some (.int .i64 py) ∧ Below w.heap.size w w' := ⟨_, rfl⟩
  have hcl : ∀ w1 w2, S w1 → Below w1.heap.size w1 w2 → S w2 := by
    subst hS
    rintro w1 w2 ⟨h1, h2, h3, h4, h5⟩ hb
    exact ⟨h1.below hb, h2.below hb, cell_below h3 hb, cell_below h4 hb, Below.next h5 hb⟩
  have hS0 : S W1.drew := by
    refine hcl W1 _ ?_ (Below.refl _ _).drew
    subst hS
    exact ⟨bA, bB, cell_below hp0 hB, cell_below hp1 hB, hB⟩
  have kall : ∀ p : Clx S, BlkAt p.v w.heap.size #[.int .i64 a, .int .i64 b, .int .i64 c, .int .i64 d, .int .i64 x, .int .i64 y] 79 ∧ BlkAt p.v (w.heap.size + 1) #[.int .i64 a', .int .i64 b', .int .i64 c', .int .i64 d', .int .i64 x', .int .i64 y'] 79 ∧ p.v.cell? ⟨P, 0, none⟩ = some (.int .i64 px) ∧ p.v.cell? ⟨P, 1, none⟩ = some (.int .i64 py) ∧ Below w.heap.size w p.v := by
    subst hS
    exact fun p => p.h
  have k0 := fun p : Clx S => (kall p).1.cell 0 _ rfl
  have k1 := fun p : Clx S => (kall p).1.cell 1 _ rfl
  have k2 := fun p : Clx S => (kall p).1.cell 2 _ rfl
  have k3 := fun p : Clx S => (kall p).1.cell 3 _ rfl
  have k4 := fun p : Clx S => (kall p).1.cell 4 _ rfl
  have k5 := fun p : Clx S => (kall p).1.cell 5 _ rfl
  have j0 := fun p : Clx S => (kall p).2.1.cell 0 _ rfl
  have j1 := fun p : Clx S => (kall p).2.1.cell 1 _ rfl
  have j2 := fun p : Clx S => (kall p).2.1.cell 2 _ rfl
  have j3 := fun p : Clx S => (kall p).2.1.cell 3 _ rfl
  have j4 := fun p : Clx S => (kall p).2.1.cell 4 _ rfl
  have j5 := fun p : Clx S => (kall p).2.1.cell 5 _ rfl
  have q0 := fun p : Clx S => (kall p).2.2.1
  have q1 := fun p : Clx S => (kall p).2.2.2.1
  have KB := Lib.hid (fun p : Clx S => (kall p).2.2.2.2)
  have hnS : Nonempty (Clx S) := ⟨⟨_, hS0⟩⟩
  clear bA bB hB hp0 hp1 kall hS
  refine wp_region_clx S (by kernel_rfl) (by kernel_rfl) hS0 ?_
  repeat (go_big_quiet_step (first | (go_at_call 51; with_reducible exact Clx.call hcl _ (D1.out _)) | (go_at_call 51; with_reducible exact Clx.call hcl _ (D2.out _)) | (go_at_call 87; exact Clx.call hcl _ (HC.out _ _ _))))
  refine wpQuiet_nil ?_
  intro _ hw'
  obtain ⟨p, rfl⟩ := hw'
  have HB2 := Lib.hid (KB.out p)
  clear hS0 k0 k1 k2 k3 k4 k5 j0 j1 j2 j3 j4 j5 q0 q1 hnS hcl
  go_wp2_with (fail)
  go_ret
  exact ⟨rfl, HB2.out⟩
end Go.Proofs.Ythccbipjmheoaaa
