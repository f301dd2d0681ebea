/- Channels compared: the model's and the program's. -/
import Derived.Test.YtlelcecbpahliaaGreatDoorChnE
import Derived.Test.YtlelcecbpahliaaGreatDoorChnW
namespace Go.Proofs.YtlelcecbpahliaaGreatDoor
open Go.ChangeShapes Go.WideShapes Go.ChangeAt Go.RowKit Pm

theorem chn_b (s u : ByteArray) : (s.toList == u.toList) = decide (s.data.toList = u.data.toList) := by
  rw [ByteArray.toList_eq, ByteArray.toList_eq, Bool.eq_iff_iff]; simp
/-- Two channels are one. -/
def sameC (s1 s2 : ByteArray) (z1 z2 : Int) (ps qs : Pts) : Bool := decide (s1.data.toList = s2.data.toList) && (sameP ps qs && (z1 == z2))
theorem quiet_eqp {P : Program} {f : FuncId} {args : Array Value} {w : World} {n : Nat} {b : Bool}
    (h : Calls P f args (w.drewN n) (EqRetP b (w.drewN n))) : Calls P f args (w.drewN n) fun e w'' => e = .returned (.bool b) ∧ ∃ m, w'' = w.drewN m :=
  h.mono fun _ _ ⟨he, m, hm⟩ => ⟨he, n + m, by rw [hm, World.drewN_drewN]⟩
theorem argpts_of {w : World} {a : Option Addr} {c : Nat} {ps : Pts} (h : PtsAre w (.slice a ps.length c) ps) : ArgPts w a ps.length ps := by
  rcases h with ⟨hv, rfl⟩ | ⟨b, off, cap, hv, _, hc⟩
  · exact ⟨rfl, .inl rfl⟩
  · simp at hv; exact ⟨rfl, .inr ⟨b, off, hv.1, hc⟩⟩
theorem ArgPts.drewN {w : World} {a : Option Addr} {n : Nat} {ps : Pts} (h : ArgPts w a n ps) (m : Nat) : ArgPts (w.drewN m) a n ps := h.below (below_drewN (Below.refl _ _) m)
set_option maxRecDepth 100000 in
set_option maxHeartbeats 1000000 in
theorem sl13same_any (b1 b2 : Nat) (s1 s2 : ByteArray) (z1 z2 : Int) (v1 v2 : Value) (ps qs : Pts) (w : World) (hm : ps.length ≤ 1048576) (h1 : PtsL w v1 ps) (h2 : PtsL w v2 qs) (c1 : ChnAt w b1 s1 v1 z1) (c2 : ChnAt w b2 s2 v2 z2) :
    Calls Tryz.prog 56 #[.pointer (some ⟨b1, 0, none⟩), .pointer (some ⟨b2, 0, none⟩)] w (EqRetP (sameC s1 s2 z1 z2 ps qs) w) := by
  obtain ⟨a1, k1, rfl, h1⟩ := h1
  obtain ⟨a2, k2, rfl, h2⟩ := h2
  have HE := Lib.hid (fun n => quiet_eqp (w := w) (n := n) (ssamepts_at a1 a2 k1 k2 ps qs (w.drewN n) hm ((argpts_of h1).drewN n) ((argpts_of h2).drewN n)))
  obtain ⟨x0, x1, x2⟩ := c1
  obtain ⟨y0, y1, y2⟩ := c2
  have HV := Lib.hid (show sameC s1 s2 z1 z2 ps qs = (decide (s1.data.toList = s2.data.toList) && (sameP ps qs && (z1 == z2))) from rfl)
  obtain ⟨V, hV⟩ : ∃ V, V = sameC s1 s2 z1 z2 ps qs := ⟨_, rfl⟩
  rw [← hV] at HV ⊢
  clear h1 h2 hV
  cases cs : decide (s1.data.toList = s2.data.toList)
  · have bs := (chn_b s1 s2).trans cs
    rw [cs] at HV
    clear cs
    unfold EqRetP
    go_enter Tryz.func56, Tryz.ntmps56
    go_wp2_with (fail)
    go_quiet ((go_at_call 91; exact HE.out _))
    go_wp2_with (fail)
    go_ret
    exact ⟨retB HV.out.symm, _, rfl⟩
  · have bs := (chn_b s1 s2).trans cs
    rw [cs] at HV
    clear cs
    unfold EqRetP
    by_cases hz : z1 = z2
    · have bz : (z1 == z2) = true := beq_iff_eq.2 hz
      rw [bz] at HV
      clear hz
      go_enter Tryz.func56, Tryz.ntmps56
      go_wp2_with (fail)
      go_quiet ((go_at_call 91; exact HE.out _))
      go_wp2_with (fail)
      go_ret
      exact ⟨retB (by rw [HV.out]; simp), _, rfl⟩
    · have bz : (z1 == z2) = false := beq_eq_false_iff_ne.2 hz
      rw [bz] at HV
      clear hz
      go_enter Tryz.func56, Tryz.ntmps56
      go_wp2_with (fail)
      go_quiet ((go_at_call 91; exact HE.out _))
      go_wp2_with (fail)
      go_ret
      exact ⟨retB (by rw [HV.out]; simp), _, rfl⟩
theorem EqRetP.below' {b : Bool} {w w' : World} {e : Ending} (h : EqRetP b w e w') : e = .returned (.bool b) ∧ Below w.heap.size w w' := by
  obtain ⟨rfl, m, rfl⟩ := h
  exact ⟨rfl, below_drewN (Below.refl _ _) m⟩
theorem ssamechn_any (s1 s2 : ByteArray) (z1 z2 : Int) (v1 v2 : Value) (ps qs : Pts) (w : World) (hm : ps.length ≤ 1048576) (h1 : PtsL w v1 ps) (h2 : PtsL w v2 qs) :
    Calls Tryz.prog 24 #[.agg #[.string s1, v1, .int .i64 z1], .agg #[.string s2, v2, .int .i64 z2]] w fun e w' => e = .returned (.bool (sameC s1 s2 z1 z2 ps qs)) ∧ Below w.heap.size w w' := by
  have HO := Lib.hid (fun b1 b2 w' h1 h2 c1 c2 => (sl13same_any b1 b2 s1 s2 z1 z2 v1 v2 ps qs w' hm h1 h2 c1 c2).mono fun _ _ h => h.below')
  have H1 := Lib.hid h1
  have H2 := Lib.hid h2
  obtain ⟨a1, k1, rfl⟩ := pts_len h1
  obtain ⟨a2, k2, rfl⟩ := pts_len h2
  generalize sameC s1 s2 z1 z2 ps qs = V at *
  clear h1 h2
  go_enter Tryz.func24, Tryz.ntmps24
  go_wp2_with (go_at_call 56; (refine (HO.out _ _ _ (H1.out.below (by go_grown)) (H2.out.below (by go_grown)) ((ChnAt.new (w := w) s1 _ z1 _ rfl).below ((Below.refl _ _).alloc (Nat.le_refl _) _)) (ChnAt.new s2 _ z2 _ (by simp))).mono ?_); rintro e w1 ⟨rfl, hb⟩; have AC := Lib.hid (Below.next (a := w) (by go_grown) hb); clear hb)
  go_ret
  exact ⟨rfl, AC.out⟩
end Go.Proofs.YtlelcecbpahliaaGreatDoor
