/- A builder of texts of the call's own. Reading a signal: the program's. -/
import Derived.Test.YtgnajfdcbpfdjaaDoorOkX
import Derived.Test.YtgnajfdcbpfdjaaDoorLayX
import Derived.Shelf.Strings.OnBuilder
import Derived.Test.YtgnajfdcbpfdjaaDoorRsgP
import Derived.BigQuiet
namespace Go.Proofs.YtgnajfdcbpfdjaaDoor
open Go.ChangeShapes Go.WideShapes Go.ChangeAt Go.RowKit Pm

/-- A builder of the call's own that holds some bytes. -/
def Bld (B b : Nat) (l : List UInt8) (w : World) : Prop := Lib.IsBuilder (Tryd.lays156_ren.t 72) (Tryd.lays156_ren.t 5) B b (Lib.byteCells l) w
theorem Bld.below {B b : Nat} {l : List UInt8} {w w' : World} (h : Bld B b l w) (hb : Below w.heap.size w w') : Bld B b l w' := by
  have key : ∀ p, Lib.BuilderAt (Tryd.lays156_ren.t 72) (Tryd.lays156_ren.t 5) B b p (Lib.byteCells l) w → Lib.BuilderAt (Tryd.lays156_ren.t 72) (Tryd.lays156_ren.t 5) B b p (Lib.byteCells l) w' := by
    intro p hp
    have hlt := hp.lt
    obtain ⟨h1, v, h2, h3, h4⟩ := hp
    refine ⟨h1, v, by rw [hb.block b hlt]; exact h2, ?_, h4⟩
    refine ⟨h3.1, ?_⟩
    rcases h3.2 with k2 | ⟨g, cap, cur, k1, k3, k4, k5⟩
    · exact .inl k2
    · refine .inr ⟨g, cap, cur, k1, k3, ?_, k5⟩
      have hlt : g < w.heap.size := by
        rcases Nat.lt_or_ge g w.heap.size with h' | h'
        · exact h'
        · rw [Array.getElem?_eq_none h'] at k4; cases k4
      rw [hb.block g hlt]; exact k4
  rcases h with h | h
  · exact .inl (key _ h)
  · exact .inr (key _ h)
theorem Bld.new (w : World) : Bld w.heap.size w.heap.size [] (w.alloc (.cells #[.pointer none, .slice none 0 0] 87)) := Lib.fresh_isBuilder _ _ w
theorem bwrite_any (B b : Nat) (l m : List UInt8) (w : World) (h : Bld B b l w) (hl : l.length + m.length ≤ 4194304) (hB : B ≤ w.heap.size) :
    Calls Tryd.prog 67 #[.pointer (some ⟨b, 0, none⟩), .string ⟨m.toArray⟩] w fun e w' => (∃ v, e = .returned v) ∧ Bld B b (l ++ m) w' ∧ Below B w w' := by
  have hk := Any.Builder_WriteString (ρ := Tryd.lays156_ren) { Tryd.lays156 with } Tryd.Builder_Extra_156 B b (Lib.byteCells l) ⟨m.toArray⟩ w h (by
    have h1 : (Lib.byteCells l).length = l.length := by simp [Lib.byteCells]
    have h2 : (⟨m.toArray⟩ : ByteArray).size = m.length := by simp [ByteArray.size]
    omega) hB
  refine hk.mono fun e w' ⟨he, hb, hw⟩ => ⟨⟨_, he⟩, ?_, hw⟩
  have e1 : Lib.byteCells l ++ Lib.strCells ⟨m.toArray⟩ = Lib.byteCells (l ++ m) := by simp [Lib.byteCells, Lib.strCells]
  rw [e1] at hb
  exact .inr hb
theorem bstring_any (B b : Nat) (l : List UInt8) (w : World) (h : Bld B b l w) (hB : B ≤ w.heap.size) :
    Calls Tryd.prog 68 #[.pointer (some ⟨b, 0, none⟩)] w fun e w' => e = .returned (.string ⟨l.toArray⟩) ∧ Below B w w' :=
  Any.Builder_String_any (ρ := Tryd.lays156_ren) { Tryd.lays156 with } Tryd.Builder_Extra_156 B b l w h hB
end Go.Proofs.YtgnajfdcbpfdjaaDoor
namespace Go.Proofs.YtgnajfdcbpfdjaaDoor
open Go.ChangeShapes Go.WideShapes Go.ChangeAt Go.RowKit Pm

theorem quiet_eqR {P : Program} {f : FuncId} {args : Array Value} {w : World} {n : Nat} {v : Value}
    (h : Calls P f args (w.drewN n) fun e w' => e = .returned v ∧ w.drewN n = w') : Calls P f args (w.drewN n) fun e w'' => e = .returned v ∧ ∃ m, w'' = w.drewN m :=
  h.mono fun _ _ ⟨he, hm⟩ => ⟨he, n, hm.symm⟩
def PrtR (o : Option (List UInt8)) (w : World) (e : Ending) (w' : World) : Prop := e = .returned (.tuple #[.string ⟨(o.getD []).toArray⟩, .bool o.isSome]) ∧ Below w.heap.size w w'
theorem prtr_is {o : Option (List UInt8)} {w w' : World} {s : ByteArray} {b : Bool} (h1 : s = ⟨(o.getD []).toArray⟩) (h2 : b = o.isSome) (hb : Below w.heap.size w w') : PrtR o w (.returned (.tuple #[.string s, .bool b])) w' := ⟨by rw [h1, h2], hb⟩
set_option maxHeartbeats 2000000 in
theorem partof_any (s : ByteArray) (n u : Int) (w : World) (hu : 1 ≤ u ∧ u ≤ 50) :
    Calls Tryd.prog 66 #[.agg #[.string s, .int .i64 n], .int .i64 u] w (PrtR (prtO (s, n) u) w) := by
  obtain ⟨u1, u2⟩ := hu
  have m1 : IntKind.i64.wrap u = u := IntWalk.i64_in _ (by omega)
  have m3 : IntKind.i64.wrap (3 * u) = 3 * u := IntWalk.i64_in _ (by omega)
  have m7 : IntKind.i64.wrap (7 * u) = 7 * u := IntWalk.i64_in _ (by omega)
  have HB0 := Lib.hid (show Below w.heap.size w (w.alloc (.cells #[.string s, .int .i64 n] 45)) from (Below.refl _ _).alloc (Nat.le_refl _) _)
  have HC := Lib.hid (fun m => quiet_eqR (w := w.alloc (.cells #[.string s, .int .i64 n] 45)) (n := m) (hascol_any s ((w.alloc (.cells #[.string s, .int .i64 n] 45)).drewN m)))
  have HV := Lib.hid (show prtO (s, n) u = if colB s = true ∧ n = 1 * u then some [46] else if colB s = true ∧ n = 3 * u then some [45]
    else if s.toList.isEmpty = true ∧ n = 1 * u then some [] else if s.toList.isEmpty = true ∧ n = 3 * u then some [32]
    else if s.toList.isEmpty = true ∧ n = 7 * u then some [32, 47, 32] else none from rfl)
  have HE := Lib.hid (fun h => col_empty (s := s) h)
  generalize prtO (s, n) u = o at *
  cases hc : colB s
  · cases he : s.toList.isEmpty
    · have HO := Lib.hid (show o = none by rw [HV.out, if_neg (by rintro ⟨a, b⟩; first | exact absurd (hc.symm.trans a) (by decide) | exact absurd (he.symm.trans a) (by decide) | omega), if_neg (by rintro ⟨a, b⟩; first | exact absurd (hc.symm.trans a) (by decide) | exact absurd (he.symm.trans a) (by decide) | omega), if_neg (by rintro ⟨a, b⟩; first | exact absurd (hc.symm.trans a) (by decide) | exact absurd (he.symm.trans a) (by decide) | omega), if_neg (by rintro ⟨a, b⟩; first | exact absurd (hc.symm.trans a) (by decide) | exact absurd (he.symm.trans a) (by decide) | omega), if_neg (by rintro ⟨a, b⟩; first | exact absurd (hc.symm.trans a) (by decide) | exact absurd (he.symm.trans a) (by decide) | omega)])
      rw [hc] at HC
      clear hc HV HE
      go_enter Tryd.func66, Tryd.ntmps66
      go_wp2_with (fail)
      go_quiet ((go_at_call 48; exact HC.out _))
      go_wp2_with (fail)
      go_ret2
      exact prtr_is (by rw [HO.out]; rfl) (by rw [HO.out]; rfl) (below_drewN HB0.out _)
    · by_cases k1 : n = 1 * u
      · have HO := Lib.hid (show o = some [] by rw [HV.out, if_neg (by rintro ⟨a, b⟩; first | exact absurd (hc.symm.trans a) (by decide) | exact absurd (he.symm.trans a) (by decide) | omega), if_neg (by rintro ⟨a, b⟩; first | exact absurd (hc.symm.trans a) (by decide) | exact absurd (he.symm.trans a) (by decide) | omega), if_pos ⟨he, k1⟩])
        have q1 : (n == u) = true := by rw [beq_iff_eq]; omega
        rw [hc] at HC
        clear hc HV HE k1
        go_enter Tryd.func66, Tryd.ntmps66
        go_wp2_with (fail)
        go_quiet ((go_at_call 48; exact HC.out _))
        go_wp2_with (fail)
        go_ret2
        exact prtr_is (by rw [HO.out]; rfl) (by rw [HO.out]; rfl) (below_drewN HB0.out _)
      · by_cases k3 : n = 3 * u
        · have HO := Lib.hid (show o = some [32] by rw [HV.out, if_neg (by rintro ⟨a, b⟩; first | exact absurd (hc.symm.trans a) (by decide) | exact absurd (he.symm.trans a) (by decide) | omega), if_neg (by rintro ⟨a, b⟩; first | exact absurd (hc.symm.trans a) (by decide) | exact absurd (he.symm.trans a) (by decide) | omega), if_neg (by rintro ⟨a, b⟩; first | exact absurd (hc.symm.trans a) (by decide) | exact absurd (he.symm.trans a) (by decide) | omega), if_pos ⟨he, k3⟩])
          have q1 : (n == u) = false := by rw [beq_eq_false_iff_ne]; omega
          have q3 : (n == 3 * u) = true := by rw [beq_iff_eq]; omega
          rw [hc] at HC
          clear hc HV HE k1 k3
          go_enter Tryd.func66, Tryd.ntmps66
          go_wp2_with (fail)
          go_quiet ((go_at_call 48; exact HC.out _))
          go_wp2_with (fail)
          go_ret2
          exact prtr_is (by rw [HO.out]; rfl) (by rw [HO.out]; rfl) (below_drewN HB0.out _)
        · by_cases k7 : n = 7 * u
          · have HO := Lib.hid (show o = some [32, 47, 32] by rw [HV.out, if_neg (by rintro ⟨a, b⟩; first | exact absurd (hc.symm.trans a) (by decide) | exact absurd (he.symm.trans a) (by decide) | omega), if_neg (by rintro ⟨a, b⟩; first | exact absurd (hc.symm.trans a) (by decide) | exact absurd (he.symm.trans a) (by decide) | omega), if_neg (by rintro ⟨a, b⟩; first | exact absurd (hc.symm.trans a) (by decide) | exact absurd (he.symm.trans a) (by decide) | omega), if_neg (by rintro ⟨a, b⟩; first | exact absurd (hc.symm.trans a) (by decide) | exact absurd (he.symm.trans a) (by decide) | omega), if_pos ⟨he, k7⟩])
            have q1 : (n == u) = false := by rw [beq_eq_false_iff_ne]; omega
            have q3 : (n == 3 * u) = false := by rw [beq_eq_false_iff_ne]; omega
            have q7 : (n == 7 * u) = true := by rw [beq_iff_eq]; omega
            rw [hc] at HC
            clear hc HV HE k1 k3 k7
            go_enter Tryd.func66, Tryd.ntmps66
            go_wp2_with (fail)
            go_quiet ((go_at_call 48; exact HC.out _))
            go_wp2_with (fail)
            go_ret2
            exact prtr_is (by rw [HO.out]; rfl) (by rw [HO.out]; rfl) (below_drewN HB0.out _)
          · have HO := Lib.hid (show o = none by rw [HV.out, if_neg (by rintro ⟨a, b⟩; first | exact absurd (hc.symm.trans a) (by decide) | exact absurd (he.symm.trans a) (by decide) | omega), if_neg (by rintro ⟨a, b⟩; first | exact absurd (hc.symm.trans a) (by decide) | exact absurd (he.symm.trans a) (by decide) | omega), if_neg (by rintro ⟨a, b⟩; first | exact absurd (hc.symm.trans a) (by decide) | exact absurd (he.symm.trans a) (by decide) | omega), if_neg (by rintro ⟨a, b⟩; first | exact absurd (hc.symm.trans a) (by decide) | exact absurd (he.symm.trans a) (by decide) | omega), if_neg (by rintro ⟨a, b⟩; first | exact absurd (hc.symm.trans a) (by decide) | exact absurd (he.symm.trans a) (by decide) | omega)])
            have q1 : (n == u) = false := by rw [beq_eq_false_iff_ne]; omega
            have q3 : (n == 3 * u) = false := by rw [beq_eq_false_iff_ne]; omega
            have q7 : (n == 7 * u) = false := by rw [beq_eq_false_iff_ne]; omega
            rw [hc] at HC
            clear hc HV HE k1 k3 k7
            go_enter Tryd.func66, Tryd.ntmps66
            go_wp2_with (fail)
            go_quiet ((go_at_call 48; exact HC.out _))
            go_wp2_with (fail)
            go_ret2
            exact prtr_is (by rw [HO.out]; rfl) (by rw [HO.out]; rfl) (below_drewN HB0.out _)
  · have he : s.toList.isEmpty = false := by
      cases e : s.toList.isEmpty
      · rfl
      · rw [HE.out e] at hc; cases hc
    by_cases k1 : n = 1 * u
    · have HO := Lib.hid (show o = some [46] by rw [HV.out, if_pos ⟨hc, k1⟩])
      have q1 : (n == u) = true := by rw [beq_iff_eq]; omega
      rw [hc] at HC
      clear hc HV HE k1
      go_enter Tryd.func66, Tryd.ntmps66
      go_wp2_with (fail)
      go_quiet ((go_at_call 48; exact HC.out _))
      go_wp2_with (fail)
      go_ret2
      exact prtr_is (by rw [HO.out]; rfl) (by rw [HO.out]; rfl) (below_drewN HB0.out _)
    · by_cases k3 : n = 3 * u
      · have HO := Lib.hid (show o = some [45] by rw [HV.out, if_neg (by rintro ⟨a, b⟩; first | exact absurd (hc.symm.trans a) (by decide) | exact absurd (he.symm.trans a) (by decide) | omega), if_pos ⟨hc, k3⟩])
        have q1 : (n == u) = false := by rw [beq_eq_false_iff_ne]; omega
        have q3 : (n == 3 * u) = true := by rw [beq_iff_eq]; omega
        rw [hc] at HC
        clear hc HV HE k1 k3
        go_enter Tryd.func66, Tryd.ntmps66
        go_wp2_with (fail)
        go_quiet ((go_at_call 48; exact HC.out _))
        go_wp2_with (fail)
        go_ret2
        exact prtr_is (by rw [HO.out]; rfl) (by rw [HO.out]; rfl) (below_drewN HB0.out _)
      · have HO := Lib.hid (show o = none by rw [HV.out, if_neg (by rintro ⟨a, b⟩; first | exact absurd (hc.symm.trans a) (by decide) | exact absurd (he.symm.trans a) (by decide) | omega), if_neg (by rintro ⟨a, b⟩; first | exact absurd (hc.symm.trans a) (by decide) | exact absurd (he.symm.trans a) (by decide) | omega), if_neg (by rintro ⟨a, b⟩; first | exact absurd (hc.symm.trans a) (by decide) | exact absurd (he.symm.trans a) (by decide) | omega), if_neg (by rintro ⟨a, b⟩; first | exact absurd (hc.symm.trans a) (by decide) | exact absurd (he.symm.trans a) (by decide) | omega), if_neg (by rintro ⟨a, b⟩; first | exact absurd (hc.symm.trans a) (by decide) | exact absurd (he.symm.trans a) (by decide) | omega)])
        have q1 : (n == u) = false := by rw [beq_eq_false_iff_ne]; omega
        have q3 : (n == 3 * u) = false := by rw [beq_eq_false_iff_ne]; omega
        rw [hc] at HC
        clear hc HV HE k1 k3
        go_enter Tryd.func66, Tryd.ntmps66
        go_wp2_with (fail)
        go_quiet ((go_at_call 48; exact HC.out _))
        go_wp2_with (fail)
        go_ret2
        exact prtr_is (by rw [HO.out]; rfl) (by rw [HO.out]; rfl) (below_drewN HB0.out _)
end Go.Proofs.YtgnajfdcbpfdjaaDoor
