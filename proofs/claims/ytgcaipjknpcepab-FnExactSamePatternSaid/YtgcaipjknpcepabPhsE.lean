/- The comparison of two lists of phases: the model's and the program's. -/
import Derived.Test.YtgcaipjknpcepabPhsL
import Derived.Deep.QuietTactic
import Derived.BigQuiet
import Derived.Laws.StructEq
namespace Go.Proofs.Ytgcaipjknpcepab
open Go.ChangeShapes Go.WideShapes Go.ChangeAt Go.RowKit Pm

/-- Two phases are one. -/
def phB (p q : Ph) : Bool := p.1.toList == q.1.toList && p.2 == q.2
theorem phB_eq {p q : Ph} (h : phB p q = true) : p = q := by
  obtain ⟨s, n⟩ := p
  obtain ⟨t, m⟩ := q
  simp only [phB, Bool.and_eq_true, beq_iff_eq] at h
  rw [ByteArray.toList_eq, ByteArray.toList_eq] at h
  obtain ⟨h1, h2⟩ := h
  simp only [Prod.mk.injEq]
  refine ⟨?_, h2⟩
  obtain ⟨⟨x⟩⟩ := s
  obtain ⟨⟨y⟩⟩ := t
  simp at h1; rw [h1]
theorem phB_same (p : Ph) : phB p p = true := by simp [phB]
/-- Two lists of phases are one. -/
def sameP : List Ph → List Ph → Bool
  | [], [] => true
  | p :: ps, q :: qs => phB p q && sameP ps qs
  | _, _ => false
theorem sameP_eq : ∀ {ps qs : List Ph}, sameP ps qs = true → ps = qs
  | [], [], _ => rfl
  | p :: ps, q :: qs, h => by
    simp only [sameP, Bool.and_eq_true] at h
    rw [phB_eq h.1, sameP_eq h.2]
  | [], _ :: _, h => by simp [sameP] at h
  | _ :: _, [], h => by simp [sameP] at h
theorem sameP_same : ∀ ps : List Ph, sameP ps ps = true
  | [] => rfl
  | p :: ps => by simp [sameP, phB_same, sameP_same ps]
theorem sameP_no {ps qs : List Ph} (h : ps ≠ qs) : sameP ps qs = false := by
  cases e : sameP ps qs
  · rfl
  · exact absurd (sameP_eq e) h
theorem sameP_at {ps qs : List Ph} {k : Nat} (h : phB (ps.getD k ph0) (qs.getD k ph0) = false) : sameP ps qs = false := by
  refine sameP_no fun e => ?_
  subst e
  rw [phB_same] at h; cases h
theorem sameP_upto {ps qs : List Ph} (hl : ps.length = qs.length) (h : ∀ i, i < ps.length → ps.getD i ph0 = qs.getD i ph0) : sameP ps qs = true := by
  have : ps = qs := by
    apply List.ext_getElem hl
    intro i h1 h2
    have := h i h1
    rwa [ph_getD ps i h1, ph_getD qs i h2] at this
  rw [this]; exact sameP_same _

theorem phGuard : Try.prog.eqGuardType Try.prog.depth 40 = false := by kernel_rfl
theorem phEqual (x x' : ByteArray) (y y' : Int) (w : World) : (Op.equalIn 10000 40 (.agg #[.string x, .int .i64 y]) (.agg #[.string x', .int .i64 y'])).run Try.prog w = .ok (phB (x, y) (x', y')) w := by
  have hS : Try.prog.underlying 40 = some (.struct (Try.prog.fieldsOf 40)) := by kernel_rfl
  have hp : Try.prog.stoodInHeld 40 = false := by kernel_rfl
  rw [show (10000 : Nat) = 9999 + 1 from rfl, run_equalIn_agg w 9999 _ _ _ hS hp]
  simp only [Program.fieldsOf, Try.underlying40]
  go_simp
  by_cases h1 : x.toList = x'.toList <;> by_cases h2 : y = y' <;> simp [phB, h1, h2]
theorem phNeq (x x' : ByteArray) (y y' : Int) (w : World) : (binOp .neq 40 (.agg #[.string x, .int .i64 y]) (.agg #[.string x', .int .i64 y'])).run Try.prog w = .ok (.bool (!phB (x, y) (x', y'))) w := by
  rw [run_neq_struct, phEqual]; rfl

/-- A comparison's answer: a Bool, the world but for draws. -/
def EqRet (b : Bool) (w : World) (e : Ending) (w' : World) : Prop := e = .returned (.bool b) ∧ ∃ m, w' = w.drewN m
theorem EqRet.below {b : Bool} {w w' : World} {e : Ending} (h : EqRet b w e w') : e = .returned (.bool b) ∧ Below w.heap.size w w' := by
  obtain ⟨rfl, m, rfl⟩ := h
  exact ⟨rfl, below_drewN (Below.refl _ _) m⟩

theorem ssame_at (a1 a2 : Option Addr) (c1 c2 : Nat) (ps qs : List Ph) (w : World) (hm : ps.length ≤ 1048576) (h1 : ArgPh w a1 ps.length ps) (h2 : ArgPh w a2 qs.length qs) :
    Calls Try.prog 35 #[.slice a1 ps.length c1, .slice a2 qs.length c2] w (EqRet (sameP ps qs) w) := by
  by_cases hl : ps.length = qs.length
  · by_cases h0 : ps.length = 0
    · have hnil : ps = [] := List.length_eq_zero_iff.1 h0
      have hnil2 : qs = [] := List.length_eq_zero_iff.1 (by omega)
      subst hnil hnil2
      clear h1 h2 h0 hl
      go_enter Try.func35, Try.ntmps35
      go_wp2
      go_rounds 1
      go_ret
      exact ⟨rfl, 0, rfl⟩
    · obtain ⟨b, off, rfl, H1⟩ := h1.2.resolve_left (by intro e; rw [e] at h0; exact h0 rfl)
      obtain ⟨b', off', rfl, H2⟩ := h2.2.resolve_left (by intro e; rw [e] at hl; exact h0 hl)
      have HC := Lib.hid H1
      have HD := Lib.hid H2
      have HL := Lib.hid hl
      obtain ⟨n, hn⟩ : ∃ n, n = ps.length := ⟨_, rfl⟩
      rw [← hl, ← hn]
      rw [← hn] at hm
      have HN := Lib.hid hn
      clear H1 H2 h0 h1 h2 hl hn
      go_enter Try.func35, Try.ntmps35
      go_wp2_with (fail)
      go_loopw [5] (fun i wr => ∃ k : Nat, k ≤ n ∧ i = .int .i64 k ∧ (∀ j, j < k → ps.getD j ph0 = qs.getD j ph0) ∧ ∃ m, wr = w.drewN m) (fun i _ => n - (intOf i).toNat)
      case atStart => exact ⟨0, Nat.zero_le _, rfl, fun j hj => by omega, 0, rfl⟩
      case round =>
        obtain ⟨k, hk, rfl, hj, m, rfl⟩ := hrel
        have HJ := Lib.hid hj
        clear hj
        by_cases hlt : k < n
        · have hkn : (k : Int) < (n : Int) := by omega
          have e0 := (HC.out k (by have := HN.out; omega)).1
          have e1 := (HC.out k (by have := HN.out; omega)).2
          have e2 := (HD.out k (by have := HN.out; have := HL.out; omega)).1
          have e3 := (HD.out k (by have := HN.out; have := HL.out; omega)).2
          have hgd := phGuard
          cases hb : phB (ps.getD k ph0) (qs.getD k ph0)
          · have HR := Lib.hid (sameP_at hb)
            generalize ps.getD k ph0 = p at *
            generalize qs.getD k ph0 = q at *
            have hne := fun w => phNeq p.1 q.1 p.2 q.2 w
            rw [show phB (p.1, p.2) (q.1, q.2) = false from hb] at hne
            obtain ⟨x, y⟩ := p
            obtain ⟨x', y'⟩ := q
            simp only at e0 e1 e2 e3 hne
            simp only [Bool.not_false] at hne
            clear hb
            go_wp2_with (fail)
            go_quiet (fail)
            go_wp2
            go_ret
            exact ⟨retB HR.out.symm, _, (World.drewN_drewN ..)⟩
          · have HQ := Lib.hid (phB_eq hb)
            generalize hp : ps.getD k ph0 = p at *
            generalize hq : qs.getD k ph0 = q at *
            have HP := Lib.hid (show ps.getD k ph0 = qs.getD k ph0 by rw [hp, hq]; exact HQ.out)
            have hne := fun w => phNeq p.1 q.1 p.2 q.2 w
            rw [show phB (p.1, p.2) (q.1, q.2) = true from hb] at hne
            clear hp hq HQ
            obtain ⟨x, y⟩ := p
            obtain ⟨x', y'⟩ := q
            simp only at e0 e1 e2 e3 hne
            simp only [Bool.not_true] at hne
            clear hb
            go_wp2_with (fail)
            go_quiet (fail)
            go_wp2
            go_roundw
            case rel => exact ⟨k + 1, by omega, by go_num, fun j hj => by
              by_cases e : j < k
              · exact HJ.out j e
              · obtain rfl : j = k := by omega
                exact HP.out, _, rfl⟩
            case measure => simp [intOf]; omega
        · obtain rfl : k = n := by omega
          have HR := Lib.hid (sameP_upto HL.out (fun i hi => HJ.out i (by have := HN.out; omega)))
          go_wp2
          go_ret
          exact ⟨retB HR.out.symm, _, rfl⟩
  · have HR := Lib.hid (sameP_no (ps := ps) (qs := qs) (fun e => hl (by rw [e])))
    have hne : ((ps.length : Int) == (qs.length : Int)) = false := by rw [beq_eq_false_iff_ne]; omega
    clear h1 h2
    go_enter Try.func35, Try.ntmps35
    go_wp2
    go_ret
    exact ⟨retB HR.out.symm, 0, rfl⟩
end Go.Proofs.Ytgcaipjknpcepab
