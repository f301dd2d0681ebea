/- The least loudness for a distance: the program's. -/
import Derived.Test.YthheacebafleeacGreatDoorSonX
import Derived.Test.YthheacebafleeacGreatDoorRngX
namespace Go.Proofs.YthheacebafleeacGreatDoor
open Go.ChangeShapes Go.WideShapes Go.ChangeAt Go.RowKit Pm

/-- Is a loudness heard as far as that? -/
def heardB (d v P : Int) : Bool := decide (d ≤ sndV P v)
def powOk (d v : Int) : Bool := inB 0 300000 [d] && inB (-3) 3 [v]
/-- A distance's loudness, and the code. -/
def PowIs (d v a c : Int) : Prop := (powOk d v = false ∧ a = 0 ∧ c = 2) ∨ (powOk d v = true ∧ LeastIs (heardB d v) 60 140 a c)
theorem heard_mono {d v : Int} (v0 : -3 ≤ v) (v1 : v ≤ 3) (a b : Int) (h0 : 60 ≤ a) (h1 : a ≤ b) (h2 : b ≤ 140) (h : heardB d v a = true) : heardB d v b = true := by
  unfold heardB at *
  have m := sndV_mono h0 h2 h1 v0 v1
  have := of_decide_eq_true h
  exact decide_eq_true (by omega)
theorem powOk_yes {d v : Int} (h : powOk d v = true) : (0 ≤ d ∧ d ≤ 300000) ∧ -3 ≤ v ∧ v ≤ 3 := by
  simp only [powOk, Bool.and_eq_true] at h
  exact ⟨inb_yes h.1, inb_yes h.2⟩
theorem powIs_ex (d v : Int) : ∃ a c, PowIs d v a c := by
  cases k : powOk d v
  · exact ⟨0, 2, .inl ⟨k, rfl, rfl⟩⟩
  · obtain ⟨_, v0, v1⟩ := powOk_yes k
    obtain ⟨r, hr⟩ := least_ex (heardB d v) 60 81 (fun a b h1 h2 h3 h4 => heard_mono v0 v1 a b h1 h2 (by omega) h4)
    obtain ⟨a, c, hc⟩ := leastIs_ex hr
    exact ⟨a, c, .inr ⟨k, hc⟩⟩

set_option maxRecDepth 100000 in
theorem powclos (d v t : Int) (bx bz : Nat) (W : World) (hT : SndsAt W) (v0 : -3 ≤ v) (v1 : v ≤ 3) (t0 : 60 ≤ t) (t1 : t ≤ 140)
    (c0 : W.cell? ⟨bx, 0, none⟩ = some (.int .i64 v)) (c1 : W.cell? ⟨bz, 0, none⟩ = some (.int .i64 d)) :
    Calls Tryz.prog 39 (#[.int .i64 t] ++ #[.pointer (some ⟨bx, 0, none⟩), .pointer (some ⟨bz, 0, none⟩)]) W fun e w' => e = .returned (.bool (heardB d v t)) ∧ Below W.heap.size W w' := by
  have HR := Lib.hid (fun w' (h : Below W.heap.size W w') => sndrange_any t v w' (hT.below h) t0 t1 v0 v1)
  unfold heardB
  generalize sndV t v = z at *
  have b0 : Below W.heap.size W W := Below.refl _ _
  go_enter Tryz.func39, Tryz.ntmps39
  go_wp2
  obtain ⟨S, hcl, hS0, k0, k1, kB⟩ := clx2 c0 c1 b0
  have hne : Nonempty (Clx S) := ⟨⟨_, hS0⟩⟩
  clear c0 c1 b0 hT
  refine wp_region_clx S (by kernel_rfl) (by kernel_rfl) hS0 ?_
  repeat (go_big_quiet_step ((go_at_call 40; exact Clx.call hcl _ (HR.out _ (kB _)))))
  refine wpQuiet_nil ?_
  intro _ hw'
  obtain ⟨p, rfl⟩ := hw'
  go_wp2_with (fail)
  go_ret
  exact ⟨rfl, kB p⟩

theorem powerfor_no (d v : Int) (w : World) (h : powOk d v = false) :
    Calls Tryz.prog 12 #[.int .i64 d, .int .i64 v] w (RetF 0 2 w) := by
  have HV := Lib.hid (fun w => iswind_any v w)
  cases h1 : inB 0 300000 [d]
  · have HQ := Lib.hid (fwithin d 0 300000 false h1)
    clear h h1
    go_enter Tryz.func12, Tryz.ntmps12
    go_wp2_with (go_at_call 36; (refine (HQ.out _ _ ?_).mono ?_); (· simp); rintro e w1 ⟨rfl, rfl⟩)
    go_ret2
    exact ⟨rfl, by go_grown⟩
  · have HQ := Lib.hid (fwithin d 0 300000 true h1)
    have h2 : inB (-3) 3 [v] = false := by rw [powOk, h1, Bool.true_and] at h; exact h
    rw [h2] at HV
    clear h h1 h2
    go_enter Tryz.func12, Tryz.ntmps12
    go_wp2_with (first
      | (go_at_call 36; (refine (HQ.out _ _ ?_).mono ?_); (· simp); rintro e w1 ⟨rfl, rfl⟩)
      | (go_at_call 37; (refine (HV.out _).mono ?_); rintro e w2 ⟨rfl, hb⟩; have AC := Lib.hid (Below.next (a := w) (by go_grown) hb); clear hb))
    go_ret2
    exact ⟨rfl, AC.out⟩
set_option maxHeartbeats 1000000 in
theorem powerfor_yes (d v a c : Int) (w : World) (hT : SndsAt w) (h : powOk d v = true) (hm : LeastIs (heardB d v) 60 140 a c) :
    Calls Tryz.prog 12 #[.int .i64 d, .int .i64 v] w (RetF a c w) := by
  obtain ⟨_, v0, v1⟩ := powOk_yes h
  have h12 : inB 0 300000 [d] = true ∧ inB (-3) 3 [v] = true := by simpa [powOk] using h
  have HV := Lib.hid (fun w => h12.2 ▸ iswind_any v w)
  have HQ := Lib.hid (fwithin d 0 300000 true h12.1)
  have eg : ∀ args w, (callFunc 39 args).run Tryz.prog w = .ok (.enter 39 args) w := enters_of Tryz.func39 (by kernel_rfl) rfl
  have HS := Lib.hid (show ∀ W, Below w.heap.size w W → (W.cell? ⟨w.heap.size, 0, none⟩ = some (.int .i64 d) ∧ W.cell? ⟨w.heap.size + 1, 0, none⟩ = some (.int .i64 v)) → Calls Tryz.prog 38 #[.int .i64 60, .int .i64 140, .func (.func 39) #[] #[.pointer (some ⟨w.heap.size + 1, 0, none⟩), .pointer (some ⟨w.heap.size, 0, none⟩)]] W (RetF a c W) from fun W hB ⟨q0, q1⟩ =>
    leastthat_any 39 #[.pointer (some ⟨w.heap.size + 1, 0, none⟩), .pointer (some ⟨w.heap.size, 0, none⟩)] (heardB d v) 60 81 a c W eg (by omega) (by omega) (by omega)
      (fun W2 i hi hb => powclos d v (60 + (i : Int)) (w.heap.size + 1) w.heap.size W2 (hT.below (hB.trans (hb.mono hB.size))) v0 v1 (by omega) (by omega) (cell_below q1 hb) (cell_below q0 hb))
      (fun x y hxy hy hp => heard_mono v0 v1 _ _ (by omega) (by omega) (by omega) hp) hm)
  clear h h12 eg hm hT
  go_enter Tryz.func12, Tryz.ntmps12
  go_wp2_with (first
    | (go_at_call 36; (refine (HQ.out _ _ ?_).mono ?_); (· simp); rintro e w1 ⟨rfl, rfl⟩)
    | (go_at_call 37; (refine (HV.out _).mono ?_); rintro e w2 ⟨rfl, hb⟩; have hsz := hb.size; have c0 := cell_below (a := ⟨w.heap.size, 0, none⟩) (v := .int .i64 d) (by go_cell) hb; have c1 := cell_below (a := ⟨w.heap.size + 1, 0, none⟩) (v := .int .i64 v) (by go_cell) hb; have AC := Lib.hid (Below.next (a := w) (by go_grown) hb); clear hb)
    | (go_at_call 38; refine (HS.out _ AC.out ⟨c0, c1⟩).mono ?_; rintro e w3 ⟨rfl, hb⟩; have AC2 := Lib.hid (Below.next AC.out hb); clear hb))
  go_ret2
  exact ⟨rfl, AC2.out⟩
theorem powerfor_any (d v a c : Int) (w : World) (hT : SndsAt w) (h : PowIs d v a c) :
    Calls Tryz.prog 12 #[.int .i64 d, .int .i64 v] w (RetF a c w) := by
  rcases h with ⟨h, rfl, rfl⟩ | ⟨h, hm⟩
  · exact powerfor_no d v w h
  · exact powerfor_yes d v a c w hT h hm

end Go.Proofs.YthheacebafleeacGreatDoor
