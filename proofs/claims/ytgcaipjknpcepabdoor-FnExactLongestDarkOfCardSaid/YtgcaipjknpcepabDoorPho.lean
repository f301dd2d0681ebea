/- A picture's joined phases: the program's function. -/
import Derived.Test.YtgcaipjknpcepabDoorJoi
import Derived.Test.YtgcaipjknpcepabDoorNor
import Derived.Shelf.Strings.Trim
namespace Go.Proofs.YtgcaipjknpcepabDoor
open Go.ChangeShapes Go.WideShapes Go.ChangeAt Go.RowKit Pm

/-- A text begins with a run. -/
theorem run_first (c : UInt8) : ∀ r : List UInt8, ∃ m, c :: r = List.replicate (m + 1) c ++ Lib.trimLeftB (c :: r) c ∧ (∀ x t, Lib.trimLeftB (c :: r) c = x :: t → x ≠ c)
  | [] => ⟨0, by simp [Lib.trimLeftB], by simp [Lib.trimLeftB]⟩
  | d :: r => by
    by_cases e : d = c
    · subst e
      obtain ⟨m, h1, h2⟩ := run_first d r
      have ht : Lib.trimLeftB (d :: d :: r) d = Lib.trimLeftB (d :: r) d := by simp [Lib.trimLeftB]
      refine ⟨m + 1, ?_, ?_⟩
      · rw [ht, List.replicate_succ, List.cons_append, ← h1]
      · rw [ht]; exact h2
    · refine ⟨0, by simp [Lib.trimLeftB, e], fun x t h => ?_⟩
      simp [Lib.trimLeftB, e] at h
      exact fun q => e (by rw [h.1, q])
theorem run_phs {S : List UInt8} {c : UInt8} {r : List UInt8} (hS : S = c :: r) (hp : ∀ x ∈ S, picb x = true) :
    ∃ m, S.length = m + 1 + (Lib.trimLeftB S c).length ∧ phsR (S.map unT) = (nameV (unT c), ((m + 1 : Nat) : Int)) :: phsR ((Lib.trimLeftB S c).map unT) ∧ (∀ x ∈ Lib.trimLeftB S c, picb x = true) := by
  obtain ⟨m, h1, h2⟩ := run_first c r
  rw [← hS] at h1 h2
  have hc : picb c = true := hp c (by rw [hS]; simp)
  have hsub : ∀ x ∈ Lib.trimLeftB S c, picb x = true := fun x hx => hp x (by rw [h1]; exact List.mem_append.2 (.inr hx))
  generalize Lib.trimLeftB S c = t at h1 h2 hsub
  refine ⟨m, by rw [h1, List.length_append, List.length_replicate], ?_, hsub⟩
  rw [h1, List.map_append, List.map_replicate]
  unfold phsR
  rw [runL_rep (unT c) (t.map unT) (fun x u e => ?_) m]
  · rfl
  · cases t with
    | nil => simp at e
    | cons y t2 =>
      rw [List.map_cons, List.cons.injEq] at e
      intro q
      exact h2 y t2 rfl (unT_inj (hsub y (by simp)) hc (by rw [e.1, q]))
def strLen : Value → Nat
  | .string s => s.size
  | _ => 0
theorem trim_any (s : ByteArray) (c : UInt8) (hc : c.toNat < 128) (w : World) :
    Calls Tryd.prog 49 #[.string s, .string ⟨#[c]⟩] w fun e w' => e = .returned (.string ⟨(Lib.trimLeftB s.data.toList c).toArray⟩) ∧ w' = w :=
  Any.strings_TrimLeft_one Tryd.lays161 s c hc w
set_option maxRecDepth 100000 in
set_option maxHeartbeats 1000000 in
theorem phases_any (T : List UInt8) (w : World) (hT : ∀ x ∈ T, picb x = true) (hq : T.length ≤ 600) :
    Calls Tryd.prog 29 #[.string ⟨T.toArray⟩] w (CopyPh (phsR (T.map unT)) w) := by
  have HT := Lib.hid hT
  clear hT
  go_enter Tryd.func29, Tryd.ntmps29
  go_wp2_with (fail)
  go_loopw [0, 3] (fun p o wr => ∃ (S : List UInt8) (Q : List Ph), p = .string ⟨S.toArray⟩ ∧ (∀ x ∈ S, picb x = true) ∧ Q.length + S.length ≤ 600 ∧ Q ++ phsR (S.map unT) = phsR (T.map unT) ∧ OwnPh wr w.heap.size o Q ∧ Below w.heap.size w wr) (fun p _ _ => strLen p)
  case atStart => exact ⟨T, [], rfl, HT.out, by simpa using hq, rfl, OwnPh.none _ _, Below.refl _ _⟩
  case round =>
    obtain ⟨S, Q, rfl, hS, hlen, hQ, hown, hbel⟩ := hrel
    rcases (show S = [] ∨ ∃ c r, S = c :: r by cases S with
      | nil => exact .inl rfl
      | cons c r => exact .inr ⟨c, r, rfl⟩) with hSS | ⟨c, r, hSS⟩
    · subst hSS
      go_wp2
      go_ret
      rw [show phsR (([] : List UInt8).map unT) = [] from rfl, List.append_nil] at hQ
      exact ⟨_, rfl, by rw [← hQ]; exact hown, hbel⟩
    · obtain ⟨m, hl, hph, hsub⟩ := run_phs hSS hS
      have hc : picb c = true := hS c (by rw [hSS]; simp)
      have hc7 : c.toNat < 128 := by rcases picb_cases hc with rfl | rfl | rfl | rfl | rfl <;> decide
      have h1 : (⟨S.toArray⟩ : ByteArray).extract 0 1 = ⟨#[c]⟩ := by rw [ext_eq, hSS]; rfl
      have hsz := pic_size S
      have hsz2 := pic_size (Lib.trimLeftB S c)
      have HTR := Lib.hid (fun w => trim_any ⟨S.toArray⟩ c hc7 w)
      rw [show Lib.trimLeftB (⟨S.toArray⟩ : ByteArray).data.toList c = Lib.trimLeftB S c from rfl] at HTR
      have HCO := Lib.hid (fun w => colp_any ⟨#[c]⟩ w)
      rw [colP_name hc] at HCO
      rw [← h1] at HTR HCO
      obtain ⟨t, ht⟩ : ∃ t, t = Lib.trimLeftB S c := ⟨_, rfl⟩
      rw [← ht] at hl hph hsub hsz2 HTR
      obtain ⟨sR, hsR⟩ : ∃ s, s = (⟨t.toArray⟩ : ByteArray) := ⟨_, rfl⟩
      obtain ⟨s, hs⟩ : ∃ s, s = (⟨S.toArray⟩ : ByteArray) := ⟨_, rfl⟩
      rw [← hs] at hsz HTR HCO ⊢
      rw [← hsR] at hsz2 HTR
      have HSR := Lib.hid hsR
      rw [hph] at hQ
      obtain ⟨y, hy⟩ : ∃ y, y = nameV (unT c) := ⟨_, rfl⟩
      rw [← hy] at hQ HCO
      have hs1 : (0 : Int) < (s.size : Int) := by omega
      have hs2 : (1 : Int) ≤ (s.size : Int) := by omega
      have hs3 : s.size = m + 1 + sR.size := by omega
      have hs4 : sR.size ≤ 600 := by omega
      have hs5 : m ≤ 600 := by omega
      have hq6 : Q.length ≤ 600 := by omega
      have HQ := Lib.hid hQ
      have HO := Lib.hid hown
      have HB := Lib.hid hbel
      have HSUB := Lib.hid hsub
      have HLEN := Lib.hid (show Q.length + 1 + t.length ≤ 600 by omega)
      clear hQ hown hbel hsub hs hsR hph hS hSS ht hy h1 hc hc7 hlen hl hsz hsz2
      go_wp2_with (first
        | (go_at_call 49; refine (HTR.out _).mono ?_; rintro e w3 ⟨rfl, rfl⟩)
        | (go_at_call 50; refine (HCO.out _).mono ?_; rintro e w4 ⟨rfl, rfl⟩)
        | (at_builtin; (refine wpList_app_phj rfl _ _ w.heap.size _ Q (y, (m : Int) + 1) w _ _ HO.out HB.out (Nat.le_refl _) (by omega) rfl rfl _ rfl rfl ?_)))
      intro v5 w5 h5 hb5
      have HO5 := Lib.hid h5
      have HB5 := Lib.hid hb5
      clear h5 hb5
      go_wp2
      refine ⟨⟨t, Q ++ [(y, (m : Int) + 1)], congrArg Value.string HSR.out, HSUB.out, by rw [List.length_append]; exact HLEN.out, by rw [List.append_assoc]; exact HQ.out, HO5.out, HB5.out⟩, ?_⟩
      show sR.size < s.size
      omega
end Go.Proofs.YtgcaipjknpcepabDoor
