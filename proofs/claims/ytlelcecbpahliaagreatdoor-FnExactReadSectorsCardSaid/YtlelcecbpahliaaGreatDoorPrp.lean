/- Parts of a text as numbers: the program's, with its answers (out of the reading of dates). -/
import Derived.Test.YtlelcecbpahliaaGreatDoorPrt
namespace Go.Proofs.YtlelcecbpahliaaGreatDoor
open Go.ChangeShapes Go.WideShapes Go.ChangeAt Go.RowKit Pm

theorem splitK_more (c : UInt8) : ∀ (k : Nat) (s : List UInt8), Lib.count s [c] ≤ k → Lib.splitK [c] 0 k s = cutAt c s := by
  intro k
  induction k with
  | zero =>
    intro s h
    exact splitK_cut c 0 s (by omega)
  | succ k ih =>
    intro s h
    by_cases e : Lib.count s [c] = k + 1
    · exact splitK_cut c (k + 1) s e
    · rcases Lib.index_spec s [c] with ⟨hi, _⟩ | ⟨i, hi, hle, hocc, hno⟩
      · have hz : Lib.count s [c] = 0 := Lib.count_miss hi
        have h2 : Lib.splitK [c] 0 (k + 1) s = [s] := by rw [Lib.splitK, if_pos (by rw [hi]; rfl)]
        rw [h2, ← splitK_cut c 0 s hz]; rfl
      · obtain ⟨r, hr⟩ := occ_one c s i hocc
        have hs : s = s.take i ++ c :: r := by rw [← hr, List.take_append_drop]
        have hdr : s.drop (i + 1) = r := by rw [← List.drop_drop, hr]; rfl
        have hc := Lib.count_hit (sub := [c]) (by simp) hi
        rw [show ([c] : List UInt8).length = 1 from rfl, hdr] at hc
        rw [← splitK_cut c (Lib.count r [c] + 1) s (by omega)]
        rw [Lib.splitK, if_neg (by rw [hi]; simp), hi, Lib.splitK, if_neg (by rw [hi]; simp), hi]
        rw [show ((i : Int)).toNat + ([c] : List UInt8).length = i + 1 by simp, hdr, ih r (by omega), splitK_cut c _ r rfl]
theorem pcs_cut (c : UInt8) (k : Nat) (s : ByteArray) (h : Lib.count s.data.toList [c] ≤ k) (hk : k ≤ s.size) : pcs c k s = cutS c s := by
  have h2 := Lib.splitB_data ⟨#[c]⟩ 0 k s
  rw [show (⟨#[c]⟩ : ByteArray).data.toList = [c] from rfl, splitK_more c k _ h] at h2
  have e : ∀ l : List ByteArray, (l.map (·.data.toList)).map (fun l => (⟨l.toArray⟩ : ByteArray)) = l := by
    intro l
    rw [List.map_map]
    conv => rhs; rw [← List.map_id l]
    apply List.map_congr_left
    intro b _
    rfl
  unfold pcs
  rw [show min (k + 1) (s.size + 1) - 1 = k by omega, ← e (Lib.splitB ⟨#[c]⟩ 0 k s), h2]
  rfl
theorem no_digit {c : UInt8} {l : List UInt8} (hc : isD c = false) (h : l.all isD = true) : c ∉ l := by
  intro hm
  have := List.all_eq_true.1 h c hm
  rw [hc] at this; cases this
theorem cnt_none {c : UInt8} {l : List UInt8} (h : c ∉ l) : l.count c = 0 := List.count_eq_zero.2 h

theorem p_digits {l : List UInt8} (h : l.all isD = true) (h0 : l ≠ []) (hb : dv 0 l ≤ 9999) : pOk ⟨l.toArray⟩ = true ∧ pVal ⟨l.toArray⟩ = (dv 0 l : Int) := by
  have e : Lib.parseIntB 32 (⟨l.toArray⟩ : ByteArray).data.toList = .ok (dv 0 l) := parse32 h h0 hb
  unfold pOk pVal
  rw [e]
  exact ⟨rfl, rfl⟩
def PartsYes (zs : List Int) (k : Nat) (w : World) (e : Ending) (w' : World) : Prop :=
  ∃ b : Nat, e = .returned (.tuple #[.slice (some ⟨b, 0, none⟩) k k, .bool true]) ∧ (∀ i, i < k → w'.cell? ⟨b, i, none⟩ = some (.int .i64 (zs.getD i 0))) ∧ Below w.heap.size w w'
def PartsNo (w : World) (e : Ending) (w' : World) : Prop := e = .returned (.tuple #[.slice none 0 0, .bool false]) ∧ Below w.heap.size w w'
theorem parts_any (s : ByteArray) (c : UInt8) (k : Nat) (w : World) (hs : s.size ≤ 1048576) (hk : k ≤ 3) (hk0 : 1 ≤ k) (hl : LenAt7 w) (hE : ErrsAt w) :
    Calls Tryz.prog 62 #[.string s, .string ⟨#[c]⟩, .int .i64 k] w (PartsRet (pcs c k s) k w) := by
  by_cases h : (pcs c k s).length = k
  · exact parts_in s c k w hs hk hk0 hl hE h
  · exact parts_len s c k w hs hk hl h
theorem parts_yes (s : ByteArray) (c : UInt8) (k : Nat) (w : World) (hs : s.size ≤ 1048576) (hk : k ≤ 3) (hk0 : 1 ≤ k) (hl : LenAt7 w) (hE : ErrsAt w) (h : (pcs c k s).length = k ∧ (pcs c k s).all pOk = true) :
    Calls Tryz.prog 62 #[.string s, .string ⟨#[c]⟩, .int .i64 k] w (PartsYes ((pcs c k s).map pVal) k w) :=
  (parts_any s c k w hs hk hk0 hl hE).mono fun e w' hr => by
    rcases hr with ⟨_, hr⟩ | ⟨hn, _⟩
    · exact hr
    · exact absurd h hn
theorem parts_no (s : ByteArray) (c : UInt8) (k : Nat) (w : World) (hs : s.size ≤ 1048576) (hk : k ≤ 3) (hk0 : 1 ≤ k) (hl : LenAt7 w) (hE : ErrsAt w) (h : ¬ ((pcs c k s).length = k ∧ (pcs c k s).all pOk = true)) :
    Calls Tryz.prog 62 #[.string s, .string ⟨#[c]⟩, .int .i64 k] w (PartsNo w) :=
  (parts_any s c k w hs hk hk0 hl hE).mono fun e w' hr => by
    rcases hr with ⟨hy, _⟩ | ⟨_, hr⟩
    · exact absurd hy h
    · exact hr

theorem str_eq {s u : ByteArray} (h : s = u) : (s.toList == u.toList) = true ∧ (s.toList != u.toList) = false := by subst h; simp
theorem str_ne {s u : ByteArray} (h : s ≠ u) : (s.toList == u.toList) = false ∧ (s.toList != u.toList) = true := by
  have h2 : s.toList ≠ u.toList := fun e => h (WideShapes.bytes_inj (by rw [← ByteArray.toList_eq, ← ByteArray.toList_eq, e]))
  have h3 : (s.toList == u.toList) = false := by rw [beq_eq_false_iff_ne]; exact h2
  exact ⟨h3, by rw [bne, h3]; rfl⟩

end Go.Proofs.YtlelcecbpahliaaGreatDoor
