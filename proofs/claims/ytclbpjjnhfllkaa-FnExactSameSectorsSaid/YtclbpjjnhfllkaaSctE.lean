/- The comparison of two lists of sectors: the model's and the program's. -/
import Derived.Test.YtclbpjjnhfllkaaSctL
import Derived.Deep.QuietTactic
import Derived.BigQuiet
import Derived.Laws.StructEq
namespace Go.Proofs.Ytclbpjjnhfllkaa
open Go.ChangeShapes Go.WideShapes Go.ChangeAt Go.RowKit Pm

/-- Two sectors are one. -/
def secB (p q : Sec) : Bool := p.1 == q.1 && (p.2.1 == q.2.1 && p.2.2.toList == q.2.2.toList)
theorem secB_eq {p q : Sec} (h : secB p q = true) : p = q := by
  obtain ⟨f, t, s⟩ := p
  obtain ⟨g, u, r⟩ := q
  simp only [secB, Bool.and_eq_true, beq_iff_eq] at h
  rw [ByteArray.toList_eq, ByteArray.toList_eq] at h
  obtain ⟨rfl, rfl, h1⟩ := h
  have e : s = r := by
    obtain ⟨⟨x⟩⟩ := s
    obtain ⟨⟨y⟩⟩ := r
    simp at h1; rw [h1]
  rw [e]
theorem secB_same (p : Sec) : secB p p = true := by simp [secB]
/-- Two lists of sectors are one. -/
def sameS : List Sec → List Sec → Bool
  | [], [] => true
  | p :: ps, q :: qs => secB p q && sameS ps qs
  | _, _ => false
theorem sameS_eq : ∀ {ps qs : List Sec}, sameS ps qs = true → ps = qs
  | [], [], _ => rfl
  | p :: ps, q :: qs, h => by
    simp only [sameS, Bool.and_eq_true] at h
    rw [secB_eq h.1, sameS_eq h.2]
  | [], _ :: _, h => by simp [sameS] at h
  | _ :: _, [], h => by simp [sameS] at h
theorem sameS_same : ∀ ps : List Sec, sameS ps ps = true
  | [] => rfl
  | p :: ps => by simp [sameS, secB_same, sameS_same ps]
theorem sameS_no {ps qs : List Sec} (h : ps ≠ qs) : sameS ps qs = false := by
  cases e : sameS ps qs
  · rfl
  · exact absurd (sameS_eq e) h
theorem sameS_at {ps qs : List Sec} {k : Nat} (h : secB (ps.getD k sec0) (qs.getD k sec0) = false) : sameS ps qs = false := by
  refine sameS_no fun e => ?_
  subst e
  rw [secB_same] at h; cases h
theorem sameS_upto {ps qs : List Sec} (hl : ps.length = qs.length) (h : ∀ i, i < ps.length → ps.getD i sec0 = qs.getD i sec0) : sameS ps qs = true := by
  have : ps = qs := by
    apply List.ext_getElem hl
    intro i h1 h2
    have := h i h1
    rwa [sec_getD ps i h1, sec_getD qs i h2] at this
  rw [this]; exact sameS_same _

theorem secGuard : Try.prog.eqGuardType Try.prog.depth 26 = false := by kernel_rfl
theorem secEqual (f f' t t' : Int) (x x' : ByteArray) (w : World) : (Op.equalIn 10000 26 (.agg #[.int .i64 f, .int .i64 t, .string x]) (.agg #[.int .i64 f', .int .i64 t', .string x'])).run Try.prog w = .ok (secB (f, t, x) (f', t', x')) w := by
  have hS : Try.prog.underlying 26 = some (.struct (Try.prog.fieldsOf 26)) := by kernel_rfl
  have hp : Try.prog.stoodInHeld 26 = false := by kernel_rfl
  rw [show (10000 : Nat) = 9999 + 1 from rfl, run_equalIn_agg w 9999 _ _ _ hS hp]
  simp only [Program.fieldsOf, Try.underlying26]
  go_simp
  by_cases h1 : f = f' <;> by_cases h2 : t = t' <;> by_cases h3 : x.toList = x'.toList <;> simp [secB, h1, h2, h3]
theorem secNeq (f f' t t' : Int) (x x' : ByteArray) (w : World) : (binOp .neq 26 (.agg #[.int .i64 f, .int .i64 t, .string x]) (.agg #[.int .i64 f', .int .i64 t', .string x'])).run Try.prog w = .ok (.bool (!secB (f, t, x) (f', t', x'))) w := by
  rw [run_neq_struct, secEqual]; rfl

/-- A comparison's answer: a Bool, the world but for draws. -/
def EqRetS (b : Bool) (w : World) (e : Ending) (w' : World) : Prop := e = .returned (.bool b) ∧ ∃ m, w' = w.drewN m
theorem EqRetS.below {b : Bool} {w w' : World} {e : Ending} (h : EqRetS b w e w') : e = .returned (.bool b) ∧ Below w.heap.size w w' := by
  obtain ⟨rfl, m, rfl⟩ := h
  exact ⟨rfl, below_drewN (Below.refl _ _) m⟩

theorem ssames_at (a1 a2 : Option Addr) (c1 c2 : Nat) (ps qs : List Sec) (w : World) (hm : ps.length ≤ 1048576) (h1 : ArgSec w a1 ps.length ps) (h2 : ArgSec w a2 qs.length qs) :
    Calls Try.prog 22 #[.slice a1 ps.length c1, .slice a2 qs.length c2] w (EqRetS (sameS ps qs) w) := by
  by_cases hl : ps.length = qs.length
  · by_cases h0 : ps.length = 0
    · have hnil : ps = [] := List.length_eq_zero_iff.1 h0
      have hnil2 : qs = [] := List.length_eq_zero_iff.1 (by omega)
      subst hnil hnil2
      clear h1 h2 h0 hl
      go_enter Try.func22, Try.ntmps22
      go_wp2
      go_rounds 1
      go_ret
      exact ⟨rfl, 0, rfl⟩
    · obtain ⟨b, off, rfl, H1⟩ := h1.2.resolve_left (by intro e; rw [e] at h0; exact h0 rfl)
      obtain ⟨b', off', rfl, H2⟩ := h2.2.resolve_left (by intro e; rw [e] at hl; exact h0 hl)
      have HC := Lib.hid H1
      have HD := Lib.hid H2
      have HL := Lib.hid hl
      obtain ⟨n, hn⟩ : ∃ n, n = ps.length := ⟨_, rfl⟩
      rw [← hl, ← hn]
      rw [← hn] at hm
      have HN := Lib.hid hn
      clear H1 H2 h0 h1 h2 hl hn
      go_enter Try.func22, Try.ntmps22
      go_wp2_with (fail)
      go_loopw [5] (fun i wr => ∃ k : Nat, k ≤ n ∧ i = .int .i64 k ∧ (∀ j, j < k → ps.getD j sec0 = qs.getD j sec0) ∧ ∃ m, wr = w.drewN m) (fun i _ => n - (intOf i).toNat)
      case atStart => exact ⟨0, Nat.zero_le _, rfl, fun j hj => by omega, 0, rfl⟩
      case round =>
        obtain ⟨k, hk, rfl, hj, m, rfl⟩ := hrel
        have HJ := Lib.hid hj
        clear hj
        by_cases hlt : k < n
        · have hkn : (k : Int) < (n : Int) := by omega
          have e0 := (HC.out k (by have := HN.out; omega)).1
          have e1 := (HC.out k (by have := HN.out; omega)).2.1
          have e2 := (HC.out k (by have := HN.out; omega)).2.2
          have e3 := (HD.out k (by have := HN.out; have := HL.out; omega)).1
          have e4 := (HD.out k (by have := HN.out; have := HL.out; omega)).2.1
          have e5 := (HD.out k (by have := HN.out; have := HL.out; omega)).2.2
          have hgd := secGuard
          cases hb : secB (ps.getD k sec0) (qs.getD k sec0)
          · have HR := Lib.hid (sameS_at hb)
            generalize ps.getD k sec0 = p at *
            generalize qs.getD k sec0 = q at *
            have hne := fun w => secNeq p.1 q.1 p.2.1 q.2.1 p.2.2 q.2.2 w
            rw [show secB (p.1, p.2.1, p.2.2) (q.1, q.2.1, q.2.2) = false from hb] at hne
            obtain ⟨f, t, x⟩ := p
            obtain ⟨f', t', x'⟩ := q
            simp only at e0 e1 e2 e3 e4 e5 hne
            simp only [Bool.not_false] at hne
            clear hb
            go_wp2_with (fail)
            go_quiet (fail)
            go_wp2
            go_ret
            exact ⟨retB HR.out.symm, _, (World.drewN_drewN ..)⟩
          · have HQ := Lib.hid (secB_eq hb)
            generalize hp : ps.getD k sec0 = p at *
            generalize hq : qs.getD k sec0 = q at *
            have HP := Lib.hid (show ps.getD k sec0 = qs.getD k sec0 by rw [hp, hq]; exact HQ.out)
            have hne := fun w => secNeq p.1 q.1 p.2.1 q.2.1 p.2.2 q.2.2 w
            rw [show secB (p.1, p.2.1, p.2.2) (q.1, q.2.1, q.2.2) = true from hb] at hne
            clear hp hq HQ
            obtain ⟨f, t, x⟩ := p
            obtain ⟨f', t', x'⟩ := q
            simp only at e0 e1 e2 e3 e4 e5 hne
            simp only [Bool.not_true] at hne
            clear hb
            go_wp2_with (fail)
            go_quiet (fail)
            go_wp2
            go_roundw
            case rel => exact ⟨k + 1, by omega, by go_num, fun j hj => by
              by_cases e : j < k
              · exact HJ.out j e
              · obtain rfl : j = k := by omega
                exact HP.out, _, rfl⟩
            case measure => simp [intOf]; omega
        · obtain rfl : k = n := by omega
          have HR := Lib.hid (sameS_upto HL.out (fun i hi => HJ.out i (by have := HN.out; omega)))
          go_wp2
          go_ret
          exact ⟨retB HR.out.symm, _, rfl⟩
  · have HR := Lib.hid (sameS_no (ps := ps) (qs := qs) (fun e => hl (by rw [e])))
    have hne : ((ps.length : Int) == (qs.length : Int)) = false := by rw [beq_eq_false_iff_ne]; omega
    clear h1 h2
    go_enter Try.func22, Try.ntmps22
    go_wp2
    go_ret
    exact ⟨retB HR.out.symm, 0, rfl⟩
theorem equals_at (a1 a2 : Option Addr) (c1 c2 : Nat) (ps qs : List Sec) (w : World) (hm : ps.length ≤ 1048576) (h1 : ArgSec w a1 ps.length ps) (h2 : ArgSec w a2 qs.length qs) :
    Calls Try.prog 44 #[.slice a1 ps.length c1, .slice a2 qs.length c2] w (EqRetS (sameS ps qs) w) := by
  by_cases hl : ps.length = qs.length
  · by_cases h0 : ps.length = 0
    · have hnil : ps = [] := List.length_eq_zero_iff.1 h0
      have hnil2 : qs = [] := List.length_eq_zero_iff.1 (by omega)
      subst hnil hnil2
      clear h1 h2 h0 hl
      go_enter Try.func44, Try.ntmps44
      go_wp2
      go_rounds 1
      go_ret
      exact ⟨rfl, 0, rfl⟩
    · obtain ⟨b, off, rfl, H1⟩ := h1.2.resolve_left (by intro e; rw [e] at h0; exact h0 rfl)
      obtain ⟨b', off', rfl, H2⟩ := h2.2.resolve_left (by intro e; rw [e] at hl; exact h0 hl)
      have HC := Lib.hid H1
      have HD := Lib.hid H2
      have HL := Lib.hid hl
      obtain ⟨n, hn⟩ : ∃ n, n = ps.length := ⟨_, rfl⟩
      rw [← hl, ← hn]
      rw [← hn] at hm
      have HN := Lib.hid hn
      clear H1 H2 h0 h1 h2 hl hn
      go_enter Try.func44, Try.ntmps44
      go_wp2_with (fail)
      go_loopw [13] (fun i wr => ∃ k : Nat, k ≤ n ∧ i = .int .i64 k ∧ (∀ j, j < k → ps.getD j sec0 = qs.getD j sec0) ∧ ∃ m, wr = w.drewN m) (fun i _ => n - (intOf i).toNat)
      case atStart => exact ⟨0, Nat.zero_le _, rfl, fun j hj => by omega, 0, rfl⟩
      case round =>
        obtain ⟨k, hk, rfl, hj, m, rfl⟩ := hrel
        have HJ := Lib.hid hj
        clear hj
        by_cases hlt : k < n
        · have hkn : (k : Int) < (n : Int) := by omega
          have e0 := (HC.out k (by have := HN.out; omega)).1
          have e1 := (HC.out k (by have := HN.out; omega)).2.1
          have e2 := (HC.out k (by have := HN.out; omega)).2.2
          have e3 := (HD.out k (by have := HN.out; have := HL.out; omega)).1
          have e4 := (HD.out k (by have := HN.out; have := HL.out; omega)).2.1
          have e5 := (HD.out k (by have := HN.out; have := HL.out; omega)).2.2
          have hgd := secGuard
          cases hb : secB (ps.getD k sec0) (qs.getD k sec0)
          · have HR := Lib.hid (sameS_at hb)
            generalize ps.getD k sec0 = p at *
            generalize qs.getD k sec0 = q at *
            have hne := fun w => secNeq p.1 q.1 p.2.1 q.2.1 p.2.2 q.2.2 w
            rw [show secB (p.1, p.2.1, p.2.2) (q.1, q.2.1, q.2.2) = false from hb] at hne
            obtain ⟨f, t, x⟩ := p
            obtain ⟨f', t', x'⟩ := q
            simp only at e0 e1 e2 e3 e4 e5 hne
            simp only [Bool.not_false] at hne
            clear hb
            go_wp2_with (fail)
            go_quiet (fail)
            go_wp2
            go_ret
            exact ⟨retB HR.out.symm, _, (World.drewN_drewN ..)⟩
          · have HQ := Lib.hid (secB_eq hb)
            generalize hp : ps.getD k sec0 = p at *
            generalize hq : qs.getD k sec0 = q at *
            have HP := Lib.hid (show ps.getD k sec0 = qs.getD k sec0 by rw [hp, hq]; exact HQ.out)
            have hne := fun w => secNeq p.1 q.1 p.2.1 q.2.1 p.2.2 q.2.2 w
            rw [show secB (p.1, p.2.1, p.2.2) (q.1, q.2.1, q.2.2) = true from hb] at hne
            clear hp hq HQ
            obtain ⟨f, t, x⟩ := p
            obtain ⟨f', t', x'⟩ := q
            simp only at e0 e1 e2 e3 e4 e5 hne
            simp only [Bool.not_true] at hne
            clear hb
            go_wp2_with (fail)
            go_quiet (fail)
            go_wp2
            go_roundw
            case rel => exact ⟨k + 1, by omega, by go_num, fun j hj => by
              by_cases e : j < k
              · exact HJ.out j e
              · obtain rfl : j = k := by omega
                exact HP.out, _, rfl⟩
            case measure => simp [intOf]; omega
        · obtain rfl : k = n := by omega
          have HR := Lib.hid (sameS_upto HL.out (fun i hi => HJ.out i (by have := HN.out; omega)))
          go_wp2
          go_ret
          exact ⟨retB HR.out.symm, _, rfl⟩
  · have HR := Lib.hid (sameS_no (ps := ps) (qs := qs) (fun e => hl (by rw [e])))
    have hne : ((ps.length : Int) == (qs.length : Int)) = false := by rw [beq_eq_false_iff_ne]; omega
    clear h1 h2
    go_enter Try.func44, Try.ntmps44
    go_wp2
    go_ret
    exact ⟨retB HR.out.symm, 0, rfl⟩
end Go.Proofs.Ytclbpjjnhfllkaa
