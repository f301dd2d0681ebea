/- The program's reading of a date and of a time. -/
import Derived.Test.YtjjkbbcpihaphaaDoorPrt
import Derived.Test.YtjjkbbcpihaphaaDoorRcs
import Derived.Test.YtjjkbbcpihaphaaDoorCalL
namespace Go.Proofs.YtjjkbbcpihaphaaDoor
open Go.ChangeShapes Go.WideShapes Go.ChangeAt Go.RowKit Pm

theorem splitK_more (c : UInt8) : ∀ (k : Nat) (s : List UInt8), Lib.count s [c] ≤ k → Lib.splitK [c] 0 k s = cutAt c s := by
  intro k
  induction k with
  | zero =>
    intro s h
    exact splitK_cut c 0 s (by omega)
  | succ k ih =>
    intro s h
    by_cases e : Lib.count s [c] = k + 1
    · exact splitK_cut c (k + 1) s e
    · rcases Lib.index_spec s [c] with ⟨hi, _⟩ | ⟨i, hi, hle, hocc, hno⟩
      · have hz : Lib.count s [c] = 0 := Lib.count_miss hi
        have h2 : Lib.splitK [c] 0 (k + 1) s = [s] := by rw [Lib.splitK, if_pos (by rw [hi]; rfl)]
        rw [h2, ← splitK_cut c 0 s hz]; rfl
      · obtain ⟨r, hr⟩ := occ_one c s i hocc
        have hs : s = s.take i ++ c :: r := by rw [← hr, List.take_append_drop]
        have hdr : s.drop (i + 1) = r := by rw [← List.drop_drop, hr]; rfl
        have hc := Lib.count_hit (sub := [c]) (by simp) hi
        rw [show ([c] : List UInt8).length = 1 from rfl, hdr] at hc
        rw [← splitK_cut c (Lib.count r [c] + 1) s (by omega)]
        rw [Lib.splitK, if_neg (by rw [hi]; simp), hi, Lib.splitK, if_neg (by rw [hi]; simp), hi]
        rw [show ((i : Int)).toNat + ([c] : List UInt8).length = i + 1 by simp, hdr, ih r (by omega), splitK_cut c _ r rfl]
theorem pcs_cut (c : UInt8) (k : Nat) (s : ByteArray) (h : Lib.count s.data.toList [c] ≤ k) (hk : k ≤ s.size) : pcs c k s = cutS c s := by
  have h2 := Lib.splitB_data ⟨#[c]⟩ 0 k s
  rw [show (⟨#[c]⟩ : ByteArray).data.toList = [c] from rfl, splitK_more c k _ h] at h2
  have e : ∀ l : List ByteArray, (l.map (·.data.toList)).map (fun l => (⟨l.toArray⟩ : ByteArray)) = l := by
    intro l
    rw [List.map_map]
    conv => rhs; rw [← List.map_id l]
    apply List.map_congr_left
    intro b _
    rfl
  unfold pcs
  rw [show min (k + 1) (s.size + 1) - 1 = k by omega, ← e (Lib.splitB ⟨#[c]⟩ 0 k s), h2]
  rfl
theorem no_digit {c : UInt8} {l : List UInt8} (hc : isD c = false) (h : l.all isD = true) : c ∉ l := by
  intro hm
  have := List.all_eq_true.1 h c hm
  rw [hc] at this; cases this
theorem cnt_none {c : UInt8} {l : List UInt8} (h : c ∉ l) : l.count c = 0 := List.count_eq_zero.2 h

theorem pcs_date {y m d : Nat} (hy : y < 10000) (hm : m < 100) (hd : d < 100) : pcs 45 3 (dateS y m d) = [⟨(d4 y).toArray⟩, ⟨(d2 m).toArray⟩, ⟨(d2 d).toArray⟩] := by
  have n1 := no_digit (c := 45) (by decide) (all_four hy)
  have n2 := no_digit (c := 45) (by decide) (all_two hm)
  have n3 := no_digit (c := 45) (by decide) (all_two hd)
  have hcut : cutAt 45 (dateL y m d) = [d4 y, d2 m, d2 d] := by
    unfold dateL
    rw [cutAt_hit 45 _ _ n1, cutAt_hit 45 _ _ n2, cutAt_miss 45 _ n3]
  rw [pcs_cut 45 3 _ (by
    have := cutAt_len 45 (dateL y m d)
    rw [hcut] at this
    rw [dateS_list, Lib.count_one]
    simp at this; omega) (by show 3 ≤ 10; omega)]
  unfold cutS
  rw [dateS_list, hcut]; rfl
theorem pcs_clock {t : Nat} (ht : t ≤ 1439) : pcs 58 2 (clockS t) = [⟨(d2 (t / 60)).toArray⟩, ⟨(d2 (t % 60)).toArray⟩] := by
  have n1 := no_digit (c := 58) (by decide) (all_two (show t / 60 < 100 by omega))
  have n2 := no_digit (c := 58) (by decide) (all_two (show t % 60 < 100 by omega))
  have hcut : cutAt 58 (clockL t) = [d2 (t / 60), d2 (t % 60)] := by
    unfold clockL
    rw [cutAt_hit 58 _ _ n1, cutAt_miss 58 _ n2]
  rw [pcs_cut 58 2 _ (by
    have := cutAt_len 58 (clockL t)
    rw [hcut] at this
    rw [show (clockS t).data.toList = clockL t from rfl, Lib.count_one]
    simp at this; omega) (by show 2 ≤ 5; omega)]
  unfold cutS
  rw [show (clockS t).data.toList = clockL t from rfl, hcut]; rfl
theorem p_digits {l : List UInt8} (h : l.all isD = true) (h0 : l ≠ []) (hb : dv 0 l ≤ 9999) : pOk ⟨l.toArray⟩ = true ∧ pVal ⟨l.toArray⟩ = (dv 0 l : Int) := by
  have e : Lib.parseIntB 32 (⟨l.toArray⟩ : ByteArray).data.toList = .ok (dv 0 l) := parse32 h h0 hb
  unfold pOk pVal
  rw [e]
  exact ⟨rfl, rfl⟩
theorem p_two {u : Nat} (h : u < 100) : pOk ⟨(d2 u).toArray⟩ = true ∧ pVal ⟨(d2 u).toArray⟩ = (u : Int) := by
  have := p_digits (all_two h) (by simp [d2]) (by rw [dv_two h]; omega)
  rwa [dv_two h] at this
theorem p_four {u : Nat} (h : u < 10000) : pOk ⟨(d4 u).toArray⟩ = true ∧ pVal ⟨(d4 u).toArray⟩ = (u : Int) := by
  have := p_digits (all_four h) (by simp [d4]) (by rw [dv_four h]; omega)
  rwa [dv_four h] at this

def PartsYes (zs : List Int) (k : Nat) (w : World) (e : Ending) (w' : World) : Prop :=
  ∃ b : Nat, e = .returned (.tuple #[.slice (some ⟨b, 0, none⟩) k k, .bool true]) ∧ (∀ i, i < k → w'.cell? ⟨b, i, none⟩ = some (.int .i64 (zs.getD i 0))) ∧ Below w.heap.size w w'
def PartsNo (w : World) (e : Ending) (w' : World) : Prop := e = .returned (.tuple #[.slice none 0 0, .bool false]) ∧ Below w.heap.size w w'
theorem parts_any (s : ByteArray) (c : UInt8) (k : Nat) (w : World) (hs : s.size ≤ 1048576) (hk : k ≤ 3) (hk0 : 1 ≤ k) (hl : LenAt7 w) (hE : ErrsAt w) :
    Calls Tryd.prog 39 #[.string s, .string ⟨#[c]⟩, .int .i64 k] w (PartsRet (pcs c k s) k w) := by
  by_cases h : (pcs c k s).length = k
  · exact parts_in s c k w hs hk hk0 hl hE h
  · exact parts_len s c k w hs hk hl h
theorem parts_yes (s : ByteArray) (c : UInt8) (k : Nat) (w : World) (hs : s.size ≤ 1048576) (hk : k ≤ 3) (hk0 : 1 ≤ k) (hl : LenAt7 w) (hE : ErrsAt w) (h : (pcs c k s).length = k ∧ (pcs c k s).all pOk = true) :
    Calls Tryd.prog 39 #[.string s, .string ⟨#[c]⟩, .int .i64 k] w (PartsYes ((pcs c k s).map pVal) k w) :=
  (parts_any s c k w hs hk hk0 hl hE).mono fun e w' hr => by
    rcases hr with ⟨_, hr⟩ | ⟨hn, _⟩
    · exact hr
    · exact absurd h hn
theorem parts_no (s : ByteArray) (c : UInt8) (k : Nat) (w : World) (hs : s.size ≤ 1048576) (hk : k ≤ 3) (hk0 : 1 ≤ k) (hl : LenAt7 w) (hE : ErrsAt w) (h : ¬ ((pcs c k s).length = k ∧ (pcs c k s).all pOk = true)) :
    Calls Tryd.prog 39 #[.string s, .string ⟨#[c]⟩, .int .i64 k] w (PartsNo w) :=
  (parts_any s c k w hs hk hk0 hl hE).mono fun e w' hr => by
    rcases hr with ⟨hy, _⟩ | ⟨_, hr⟩
    · exact absurd hy h
    · exact hr

theorem keep3 {w0 w w1 : World} {a0 a1 a2 : Addr} {v0 v1 v2 : Value} (hb : Below w.heap.size w w1) (h : w.cell? a0 = some v0 ∧ w.cell? a1 = some v1 ∧ w.cell? a2 = some v2 ∧ Below w0.heap.size w0 w) :
    w1.cell? a0 = some v0 ∧ w1.cell? a1 = some v1 ∧ w1.cell? a2 = some v2 ∧ Below w0.heap.size w0 w1 :=
  ⟨cell_below h.1 hb, cell_below h.2.1 hb, cell_below h.2.2.1 hb, Below.next h.2.2.2 hb⟩
theorem drew3 {w0 w : World} {a0 a1 a2 : Addr} {v0 v1 v2 : Value} (h : w.cell? a0 = some v0 ∧ w.cell? a1 = some v1 ∧ w.cell? a2 = some v2 ∧ Below w0.heap.size w0 w) :
    w.drew.cell? a0 = some v0 ∧ w.drew.cell? a1 = some v1 ∧ w.drew.cell? a2 = some v2 ∧ Below w0.heap.size w0 w.drew := ⟨h.1, h.2.1, h.2.2.1, h.2.2.2.drew⟩
theorem keepB3 {w0 w : World} {a0 a1 a2 : Addr} {v0 v1 v2 : Value} (h : w.cell? a0 = some v0 ∧ w.cell? a1 = some v1 ∧ w.cell? a2 = some v2 ∧ Below w0.heap.size w0 w) : Below w0.heap.size w0 w := h.2.2.2

def RetIBr (a : Int) (b : Bool) (w : World) (e : Ending) (w' : World) : Prop := e = .returned (.tuple #[.int .i64 a, .bool b]) ∧ Below w.heap.size w w'

theorem three_of {α : Type} (l : List α) (h : l.length = 3) : ∃ a b c, l = [a, b, c] := by
  match l, h with
  | [a, b, c], _ => exact ⟨a, b, c, rfl⟩
theorem two_of' {α : Type} (l : List α) (h : l.length = 2) : ∃ a b, l = [a, b] := by
  match l, h with
  | [a, b], _ => exact ⟨a, b, rfl⟩
theorem str_eq {s u : ByteArray} (h : s = u) : (s.toList == u.toList) = true ∧ (s.toList != u.toList) = false := by subst h; simp
theorem str_ne {s u : ByteArray} (h : s ≠ u) : (s.toList == u.toList) = false ∧ (s.toList != u.toList) = true := by
  have h2 : s.toList ≠ u.toList := fun e => h (WideShapes.bytes_inj (by rw [← ByteArray.toList_eq, ← ByteArray.toList_eq, e]))
  have h3 : (s.toList == u.toList) = false := by rw [beq_eq_false_iff_ne]; exact h2
  exact ⟨h3, by rw [bne, h3]; rfl⟩

theorem rd_none (s : ByteArray) (w : World) (HN : Calls Tryd.prog 39 #[.string s, .string ⟨#[45]⟩, .int .i64 3] w (PartsNo w)) :
    Calls Tryd.prog 15 #[.string s] w (RetIBr 0 false w) := by
  have HN := Lib.hid HN
  go_enter Tryd.func15, Tryd.ntmps15
  go_wp2_with (first
    | (go_at_call 39; refine HN.out.mono ?_; rintro e w1 ⟨rfl, hb⟩))
  go_ret2
  exact ⟨rfl, hb⟩

set_option maxHeartbeats 1000000 in
theorem rd_bad (s : ByteArray) (a b c : Int) (w : World) (hM : MonthsAt w) (hok : dayOk a b c = false) (HY : Calls Tryd.prog 39 #[.string s, .string ⟨#[45]⟩, .int .i64 3] w (PartsYes [a, b, c] 3 w)) :
    Calls Tryd.prog 15 #[.string s] w (RetIBr 0 false w) := by
  have HY := Lib.hid HY
  have HM := Lib.hid hM
  have HD := Lib.hid (show ∀ w, MonthsAt w → Calls Tryd.prog 14 #[.int .i64 a, .int .i64 b, .int .i64 c] w (Ret2 0 2 w) from fun w hM => by
    have := dayof_any a b c w hM
    rwa [show dayV a b c = (0, 2) by unfold dayV; rw [hok]; rfl] at this)
  clear hM hok
  go_enter Tryd.func15, Tryd.ntmps15
  go_wp2_with (first
    | (go_at_call 39; refine HY.out.mono ?_; rintro e w1 ⟨g, rfl, hc, hb⟩; have q0 := hc 0 (by omega); have q1 := hc 1 (by omega); have q2 := hc 2 (by omega); have ac := hb; clear hc hb))
  simp only [List.getD_cons_zero, List.getD_cons_succ] at q0 q1 q2
  go_region_held3 (fun w' => w'.cell? ⟨g, 0, none⟩ = some (.int .i64 a) ∧ w'.cell? ⟨g, 1, none⟩ = some (.int .i64 b) ∧ w'.cell? ⟨g, 2, none⟩ = some (.int .i64 c) ∧ Below w.heap.size w w')
    (first | assumption | exact keep3 (by assumption) (by assumption) | exact drew3 (by assumption) | exact drew3 ⟨by assumption, by assumption, by assumption, by assumption⟩ | exact ⟨by assumption, by assumption, by assumption, by assumption⟩)
    (first | (go_at_call 14; refine (HD.out _ (HM.out.below (keepB3 (by assumption)))).mono ?_; rintro e w3 ⟨rfl, hb⟩))
  go_wp2
  go_ret2
  exact ⟨rfl, keepB3 (by assumption)⟩

set_option maxHeartbeats 1000000 in
theorem rd_good (s T : ByteArray) (a b c n : Int) (w : World) (hM : MonthsAt w) (hP : PowAt w) (hd : dayV a b c = (n, 0)) (ht : ∀ w, MonthsAt w → PowAt w → Calls Tryd.prog 16 #[.int .i64 n] w fun e w' => e = .returned (.string T) ∧ Below w.heap.size w w')
    (HY : Calls Tryd.prog 39 #[.string s, .string ⟨#[45]⟩, .int .i64 3] w (PartsYes [a, b, c] 3 w)) (q : Bool) (r : Int) (hq : (T = s ∧ q = true ∧ r = n) ∨ (T ≠ s ∧ q = false ∧ r = 0)) :
    Calls Tryd.prog 15 #[.string s] w (RetIBr r q w) := by
  have HY := Lib.hid HY
  have HM := Lib.hid hM
  have HP := Lib.hid hP
  have HT := Lib.hid ht
  have HD := Lib.hid (show ∀ w, MonthsAt w → Calls Tryd.prog 14 #[.int .i64 a, .int .i64 b, .int .i64 c] w (Ret2 n 0 w) from fun w hM => by
    have := dayof_any a b c w hM
    rwa [hd] at this)
  clear hM hP ht hd
  rcases hq with ⟨e, rfl, rfl⟩ | ⟨e, rfl, rfl⟩
  · obtain ⟨t1, t2⟩ := str_eq e
    clear e
    go_enter Tryd.func15, Tryd.ntmps15
    go_wp2_with (first
      | (go_at_call 39; refine HY.out.mono ?_; rintro e w1 ⟨g, rfl, hc, hb⟩; have q0 := hc 0 (by omega); have q1 := hc 1 (by omega); have q2 := hc 2 (by omega); have ac := hb; clear hc hb))
    simp only [List.getD_cons_zero, List.getD_cons_succ] at q0 q1 q2
    go_region_held3 (fun w' => w'.cell? ⟨g, 0, none⟩ = some (.int .i64 a) ∧ w'.cell? ⟨g, 1, none⟩ = some (.int .i64 b) ∧ w'.cell? ⟨g, 2, none⟩ = some (.int .i64 c) ∧ Below w.heap.size w w')
      (first | assumption | exact keep3 (by assumption) (by assumption) | exact drew3 (by assumption) | exact drew3 ⟨by assumption, by assumption, by assumption, by assumption⟩ | exact ⟨by assumption, by assumption, by assumption, by assumption⟩)
      (first | (go_at_call 14; refine (HD.out _ (HM.out.below (keepB3 (by assumption)))).mono ?_; rintro e w3 ⟨rfl, hb⟩))
    have ac4 := Lib.hid (keepB3 (by assumption))
    go_wp2_with (first
      | (go_at_call 16; refine (HT.out _ (HM.out.below ac4.out) (HP.out.below ac4.out)).mono ?_; rintro e w5 ⟨rfl, hb⟩; have ac5 := Lib.hid (Below.next ac4.out hb); clear hb))
    go_ret2
    exact ⟨rfl, ac5.out⟩
  · obtain ⟨t1, t2⟩ := str_ne e
    clear e
    go_enter Tryd.func15, Tryd.ntmps15
    go_wp2_with (first
      | (go_at_call 39; refine HY.out.mono ?_; rintro e w1 ⟨g, rfl, hc, hb⟩; have q0 := hc 0 (by omega); have q1 := hc 1 (by omega); have q2 := hc 2 (by omega); have ac := hb; clear hc hb))
    simp only [List.getD_cons_zero, List.getD_cons_succ] at q0 q1 q2
    go_region_held3 (fun w' => w'.cell? ⟨g, 0, none⟩ = some (.int .i64 a) ∧ w'.cell? ⟨g, 1, none⟩ = some (.int .i64 b) ∧ w'.cell? ⟨g, 2, none⟩ = some (.int .i64 c) ∧ Below w.heap.size w w')
      (first | assumption | exact keep3 (by assumption) (by assumption) | exact drew3 (by assumption) | exact drew3 ⟨by assumption, by assumption, by assumption, by assumption⟩ | exact ⟨by assumption, by assumption, by assumption, by assumption⟩)
      (first | (go_at_call 14; refine (HD.out _ (HM.out.below (keepB3 (by assumption)))).mono ?_; rintro e w3 ⟨rfl, hb⟩))
    have ac4 := Lib.hid (keepB3 (by assumption))
    go_wp2_with (first
      | (go_at_call 16; refine (HT.out _ (HM.out.below ac4.out) (HP.out.below ac4.out)).mono ?_; rintro e w5 ⟨rfl, hb⟩; have ac5 := Lib.hid (Below.next ac4.out hb); clear hb))
    go_ret2
    exact ⟨rfl, ac5.out⟩
end Go.Proofs.YtjjkbbcpihaphaaDoor
