/- The share of the time that is lit. -/
import Derived.Test.YtgcaipjknpcepabNor
namespace Go.Proofs.Ytgcaipjknpcepab
open Go.ChangeShapes Go.WideShapes Go.ChangeAt Go.RowKit Pm

/-- The lit tenths. -/
def litN (P : List UInt8) : Nat := P.length - P.count 45
theorem litN_le (P : List UInt8) : litN P ≤ P.length := by unfold litN; omega
def dutP (ps : List Ph) : Int := if validP ps then ((litN (onceL (tenL ps)) * 1000000 / (onceL (tenL ps)).length : Nat) : Int) else 0
/-- The lit tenths up to a place, as the model counts them. -/
def litT (l : List UInt8) : Nat := l.countP (fun b => b != 0)
theorem litT_take (l : List UInt8) (k : Nat) (h : k < l.length) : litT (l.take (k + 1)) = litT (l.take k) + (if l[k] = 0 then 0 else 1) := by
  rw [List.take_succ_eq_append_getElem h]
  unfold litT
  rw [List.countP_append]
  by_cases e : l[k] = 0 <;> simp [e]
theorem litT_map : ∀ {P : List UInt8}, (∀ x ∈ P, picb x = true) → litT (P.map unT) + P.count 45 = P.length
  | [], _ => rfl
  | x :: r, h => by
    have ih := litT_map (P := r) (fun z hz => h z (by simp [hz]))
    have hx : (unT x != 0) = !(x == 45) := by
      rcases picb_cases (h x (by simp)) with rfl | rfl | rfl | rfl | rfl <;> decide
    unfold litT at ih ⊢
    rw [List.map_cons, List.countP_cons, hx, List.count_cons, List.length_cons]
    cases x == 45
    · rw [if_pos (by rfl), if_neg (by simp)]; omega
    · rw [if_neg (by simp), if_pos (by rfl)]; omega
theorem litT_eq {P : List UInt8} (h : ∀ x ∈ P, picb x = true) : litT (P.map unT) = litN P := by
  have := litT_map h; unfold litN; omega
theorem litT_le (l : List UInt8) : litT l ≤ l.length := List.countP_le_length
set_option maxRecDepth 100000 in
set_option maxHeartbeats 1000000 in
theorem slit_any (g cap : Nat) (l : List UInt8) (w : World) (hp : 1 ≤ l.length) (hq : l.length ≤ 600) (hc : BytAt w g l) :
    Calls Try.prog 38 #[.slice (some ⟨g, 0, none⟩) l.length cap] w fun e w' => e = .returned (.int .i64 (litT l)) ∧ Below w.heap.size w w' := by
  have HC := Lib.hid hc
  clear hc
  go_enter Try.func38, Try.ntmps38
  go_wp2_with (fail)
  go_loopw [3, 4] (fun m i wr => ∃ (k : Nat), k ≤ l.length ∧ m = .int .i64 (litT (l.take k)) ∧ i = .int .i64 k ∧ Below w.heap.size w wr) (fun _ i _ => l.length - (intOf i).toNat)
  case atStart => exact ⟨0, Nat.zero_le _, rfl, rfl, Below.refl _ _⟩
  case round =>
    obtain ⟨k, hk, rfl, rfl, hbel⟩ := hrel
    by_cases hlt : k < l.length
    · have hkn : (k : Int) < (l.length : Int) := by omega
      have c0 := cell_below (HC.out k hlt) hbel
      have HB := Lib.hid hbel
      have hm := litT_take l k hlt
      have hml : litT (l.take k) ≤ 600 := Nat.le_trans (litT_le _) (by rw [List.length_take]; omega)
      obtain ⟨m, hmm⟩ : ∃ m, m = litT (l.take k) := ⟨_, rfl⟩
      rw [← hmm] at hm hml
      have HMM := Lib.hid hmm
      obtain ⟨x, hx⟩ : ∃ x, x = l[k] := ⟨_, rfl⟩
      rw [← hx] at c0 hm
      have HM := Lib.hid hm
      clear hx hbel hm
      by_cases e : x = 0
      · have hbn : ((x.toNat : Int) != 0) = false := by rw [e]; rfl
        have HE := Lib.hid e
        clear e
        go_wp2_with (fail)
        refine ⟨⟨k + 1, by omega, by rw [HM.out, HMM.out, if_pos HE.out]; rfl, rfl, HB.out⟩, ?_⟩
        show l.length - ((k : Int) + 1).toNat < l.length - ((k : Int)).toNat
        omega
      · have hbn : ((x.toNat : Int) != 0) = true := by
          simp only [bne_iff_ne, ne_eq]
          exact fun q => e (UInt8.toNat_inj.1 (by have : x.toNat = 0 := by omega
                                                  rw [this]; rfl))
        have HE := Lib.hid e
        clear e
        go_wp2_with (fail)
        refine ⟨⟨k + 1, by omega, by rw [HM.out, HMM.out, if_neg HE.out]; rfl, rfl, HB.out⟩, ?_⟩
        show l.length - ((k : Int) + 1).toNat < l.length - ((k : Int)).toNat
        omega
    · have hkn : ¬ (k : Int) < (l.length : Int) := by omega
      go_wp2
      go_ret
      exact ⟨ret_i (by rw [List.take_of_length_le (by omega)]), hbel⟩
theorem once_pic {T : List UInt8} (h : PicL T) : ∀ x ∈ onceL T, picb x = true := fun x hx => h.pic x (List.mem_of_mem_take hx)
theorem count_any (s : ByteArray) (c : UInt8) (w : World) :
    Calls Try.prog 39 #[.string s, .string ⟨#[c]⟩] w fun e w' => e = .returned (.int .i64 (Lib.countByte s.data.toList c)) ∧ w' = w :=
  Any.strings_Count_one Try.lays138 s c w
theorem count_norm (P : List UInt8) (c : UInt8) : (normL P).count c = P.count c := by
  unfold normL rotL
  rw [List.count_append, Nat.add_comm, ← List.count_append, List.take_append_drop]
set_option maxHeartbeats 1000000 in
theorem sduty_any (v : Value) (ps : List Ph) (w : World) (hm : ps.length ≤ 1048576) (h : PhAre w v ps) :
    Calls Try.prog 19 #[v] w fun e w' => e = .returned (.tuple #[.int .i64 (dutP ps), .int .i64 (lenC ps)]) ∧ Below w.heap.size w w' := by
  have HV := Lib.hid (sval_any v ps w hm h)
  cases hb : validP ps
  · have HZ := Lib.hid (show dutP ps = 0 by unfold dutP; rw [hb]; rfl)
    have HC := Lib.hid (show lenC ps = 1 by unfold lenC; rw [hb]; rfl)
    rw [hb] at HV
    clear hb h
    go_enter Try.func19, Try.ntmps19
    go_wp2_with (go_at_call 22; refine HV.out.mono ?_; rintro e w1 ⟨rfl, rfl⟩)
    go_ret2
    exact ⟨retII HZ.out.symm HC.out.symm, Below.refl _ _⟩
  · have hv := validP_out hb
    have HS := Lib.hid (sonce_any v ps w h hv)
    have hlt := litT_eq (once_pic hv.ten)
    have hP1 : 1 ≤ (onceL (tenL ps)).length := by rw [once_len hv.ten.pos]; exact (perL_is _ hv.ten.pos).pos
    have hP2 : (onceL (tenL ps)).length ≤ 600 := by rw [once_len hv.ten.pos]; exact Nat.le_trans (perL_is _ hv.ten.pos).le hv.ten.most
    have hll := litN_le (onceL (tenL ps))
    have HZ := Lib.hid (show dutP ps = ((litN (onceL (tenL ps)) * 1000000 / (onceL (tenL ps)).length : Nat) : Int) by unfold dutP; rw [hb]; rfl)
    have HC := Lib.hid (show lenC ps = 0 by unfold lenC; rw [hb]; rfl)
    have hln : ((onceL (tenL ps)).map unT).length = (onceL (tenL ps)).length := List.length_map _
    obtain ⟨P, hP⟩ : ∃ P, P = onceL (tenL ps) := ⟨_, rfl⟩
    rw [← hP] at HS hlt hP1 hP2 HZ hln hll
    obtain ⟨o, ho⟩ : ∃ o, o = P.map unT := ⟨_, rfl⟩
    rw [← ho] at HS hlt hln
    obtain ⟨m, hmm⟩ : ∃ m, m = litN P := ⟨_, rfl⟩
    rw [← hmm] at hlt HZ hll
    have HL := Lib.hid (fun w g cap hc => slit_any g cap o w (by omega) (by omega) hc)
    rw [hlt] at HL
    rw [← hln] at HZ hP1 hP2 hll
    rw [hb] at HV
    clear hb h hv ho hP hlt hmm hln
    have ho0 : ¬ ((o.length : Int) == 0) = true := by simp only [beq_iff_eq]; omega
    go_enter Try.func19, Try.ntmps19
    go_wp2_with (first
      | (go_at_call 22; refine HV.out.mono ?_; rintro e w1 ⟨rfl, rfl⟩)
      | (go_at_call 33; refine HS.out.mono ?_; rintro e w2 ⟨g, cap, rfl, _, _, hc, hb⟩; have HB := Lib.hid hb; have HCE := Lib.hid hc; clear hb hc)
      | (go_at_call 38; refine (HL.out _ _ _ HCE.out).mono ?_; rintro e w3 ⟨rfl, hb⟩; have HB2 := Lib.hid (Below.next HB.out hb); clear hb))
    go_ret2
    exact ⟨retII (by rw [HZ.out, Int.natCast_ediv, Int.natCast_mul]; rfl) HC.out.symm, HB2.out⟩
set_option maxHeartbeats 1000000 in
theorem duty_any (v : Value) (ps : List Ph) (w : World) (hm : ps.length ≤ 1048576) (h : PhAre w v ps) (hn : LenAt w) :
    Calls Try.prog 20 #[v] w fun e w' => e = .returned (.tuple #[.int .i64 (dutP ps), .int .i64 (lenC ps)]) ∧ Below w.heap.size w w' := by
  have HV := Lib.hid (val_any v ps w hm h)
  cases hb : validP ps
  · have HZ := Lib.hid (show dutP ps = 0 by unfold dutP; rw [hb]; rfl)
    have HC := Lib.hid (show lenC ps = 1 by unfold lenC; rw [hb]; rfl)
    rw [hb] at HV
    clear hb h hn
    go_enter Try.func20, Try.ntmps20
    go_wp2_with (go_at_call 25; refine HV.out.mono ?_; rintro e w1 ⟨rfl, hb⟩)
    go_ret2
    exact ⟨retII HZ.out.symm HC.out.symm, hb⟩
  · have hv := validP_out hb
    have hT := hv.ten
    have HPH := Lib.hid h
    have HN := Lib.hid hn
    have HS := Lib.hid (fun w h => picture_any v ps w h hv)
    have HF := Lib.hid (fun w h => normal_any (tenL ps) w hT.pos hT.most h)
    have hP1 : 1 ≤ (onceL (tenL ps)).length := by rw [once_len hv.ten.pos]; exact (perL_is _ hv.ten.pos).pos
    have hP2 : (onceL (tenL ps)).length ≤ 600 := by rw [once_len hv.ten.pos]; exact Nat.le_trans (perL_is _ hv.ten.pos).le hv.ten.most
    have HZ := Lib.hid (show dutP ps = ((litN (onceL (tenL ps)) * 1000000 / (onceL (tenL ps)).length : Nat) : Int) by unfold dutP; rw [hb]; rfl)
    have HC := Lib.hid (show lenC ps = 0 by unfold lenC; rw [hb]; rfl)
    obtain ⟨s, hs⟩ : ∃ s, s = (⟨(tenL ps).toArray⟩ : ByteArray) := ⟨_, rfl⟩
    obtain ⟨P, hP⟩ : ∃ P, P = onceL (tenL ps) := ⟨_, rfl⟩
    rw [← hs] at HS HF
    rw [← hP] at HF HZ hP1 hP2
    obtain ⟨r, hr⟩ : ∃ r, r = (⟨(normL P).toArray⟩ : ByteArray) := ⟨_, rfl⟩
    have hrz : r.size = P.length := by rw [hr, pic_size, normL_len]
    have HK := Lib.hid (fun w => count_any r 45 w)
    have hcl : P.count 45 ≤ P.length := List.count_le_length
    rw [show Lib.countByte r.data.toList 45 = P.count 45 by rw [hr]; exact count_norm P 45] at HK
    rw [show litN P = P.length - P.count 45 from rfl] at HZ
    obtain ⟨k, hk⟩ : ∃ k, k = P.count 45 := ⟨_, rfl⟩
    rw [← hr] at HF
    rw [← hk] at HK HZ hcl
    obtain ⟨n, hn2⟩ : ∃ n, n = P.length := ⟨_, rfl⟩
    rw [← hn2] at HZ hcl hrz hP1 hP2
    rw [hb] at HV
    clear hb h hv hT hs hn hP hr hk hn2
    have hn0 : ¬ ((n : Int) == 0) = true := by simp; omega
    go_enter Try.func20, Try.ntmps20
    go_wp2_with (first
      | (go_at_call 25; refine HV.out.mono ?_; rintro e w1 ⟨rfl, hb⟩; have HB := Lib.hid hb; have HP1 := Lib.hid (HPH.out.below hb); have HN1 := Lib.hid (HN.out.below hb); clear hb)
      | (go_at_call 31; refine (HS.out _ HP1.out).mono ?_; rintro e w2 ⟨rfl, hb⟩; have HB2 := Lib.hid (Below.next HB.out hb); have HN2 := Lib.hid (HN1.out.below hb); clear hb)
      | (go_at_call 37; refine (HF.out _ HN2.out).mono ?_; rintro e w3 ⟨rfl, hb⟩; have HB3 := Lib.hid (Below.next HB2.out hb); clear hb)
      | (go_at_call 39; refine (HK.out _).mono ?_; rintro e w4 ⟨rfl, rfl⟩))
    go_ret2
    exact ⟨retII (by rw [HZ.out, Int.natCast_ediv, Int.natCast_mul, Int.ofNat_sub hcl]; rfl) HC.out.symm, HB3.out⟩
end Go.Proofs.Ytgcaipjknpcepab
