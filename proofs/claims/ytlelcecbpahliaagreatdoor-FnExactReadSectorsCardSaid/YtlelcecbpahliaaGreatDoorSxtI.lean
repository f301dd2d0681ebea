/- The text of sectors: the program's. -/
import Derived.Test.YtlelcecbpahliaaGreatDoorSxtM
import Derived.Test.YtlelcecbpahliaaGreatDoorSecI
import Derived.Deep.RegionHeld3
namespace Go.Proofs.YtlelcecbpahliaaGreatDoor
open Go.ChangeShapes Go.WideShapes Go.ChangeAt Go.RowKit Pm

theorem lt_of_cell {w : World} {a : Addr} {v : Value} (h : w.cell? a = some v) : a.block < w.heap.size := by
  rcases Nat.lt_or_ge a.block w.heap.size with h' | h'
  · exact h'
  · simp [World.cell?, Array.getElem?_eq_none h'] at h
/-- What a cell holds. -/
def outv (g i : Nat) (w : World) : Value := (w.cell? ⟨g, i, none⟩).getD undef
theorem outv_is {w : World} {g i : Nat} {z : Value} (h : w.cell? ⟨g, i, none⟩ = some z) : w.cell? ⟨g, i, none⟩ = some (outv g i w) := by unfold outv; rw [h]; rfl
/-- What a region keeps: a sector's cells, a row's cell that it writes, the row but for that cell. -/
def KeepR (B g n i : Nat) (L : List ByteArray) (W0 w : World) : Prop := (∃ L', OwnC w B g n n L' ∧ ∀ j, j ≠ i → L'.getD j e0 = L.getD j e0) ∧ Below W0.heap.size W0 w
theorem keepR {W0 w w1 : World} {a0 a1 a2 : Addr} {v0 v1 v2 : Value} {B g n i : Nat} {L : List ByteArray} (hb : Below w.heap.size w w1)
    (h : w.cell? a0 = some v0 ∧ w.cell? a1 = some v1 ∧ w.cell? a2 = some v2 ∧ w.cell? ⟨g, i, none⟩ = some (outv g i w) ∧ w.frozen? ⟨g, i, none⟩ = false ∧ KeepR B g n i L W0 w) :
    w1.cell? a0 = some v0 ∧ w1.cell? a1 = some v1 ∧ w1.cell? a2 = some v2 ∧ w1.cell? ⟨g, i, none⟩ = some (outv g i w1) ∧ w1.frozen? ⟨g, i, none⟩ = false ∧ KeepR B g n i L W0 w1 := by
  obtain ⟨h0, h1, h2, h3, h4, ⟨L', h5, h6⟩, h7⟩ := h
  exact ⟨cell_below h0 hb, cell_below h1 hb, cell_below h2 hb, outv_is (cell_below h3 hb), frozen_kept hb h4 (lt_of_cell h3), ⟨L', h5.below hb, h6⟩, Below.next h7 hb⟩
theorem drewR {W0 w : World} {a0 a1 a2 : Addr} {v0 v1 v2 : Value} {B g n i : Nat} {L : List ByteArray}
    (h : w.cell? a0 = some v0 ∧ w.cell? a1 = some v1 ∧ w.cell? a2 = some v2 ∧ w.cell? ⟨g, i, none⟩ = some (outv g i w) ∧ w.frozen? ⟨g, i, none⟩ = false ∧ KeepR B g n i L W0 w) :
    w.drew.cell? a0 = some v0 ∧ w.drew.cell? a1 = some v1 ∧ w.drew.cell? a2 = some v2 ∧ w.drew.cell? ⟨g, i, none⟩ = some (outv g i w.drew) ∧ w.drew.frozen? ⟨g, i, none⟩ = false ∧ KeepR B g n i L W0 w.drew :=
  keepR ((Below.refl _ _).drew) h
theorem putR {W0 w : World} {a0 a1 a2 : Addr} {v0 v1 v2 : Value} {g n i : Nat} {L : List ByteArray} {s : ByteArray} (n0 : a0.block ≠ g) (n1 : a1.block ≠ g) (n2 : a2.block ≠ g)
    (h : w.cell? a0 = some v0 ∧ w.cell? a1 = some v1 ∧ w.cell? a2 = some v2 ∧ w.cell? ⟨g, i, none⟩ = some (outv g i w) ∧ w.frozen? ⟨g, i, none⟩ = false ∧ KeepR W0.heap.size g n i L W0 w) :
    (w.setCell ⟨g, i, none⟩ (.string s)).cell? a0 = some v0 ∧ (w.setCell ⟨g, i, none⟩ (.string s)).cell? a1 = some v1 ∧ (w.setCell ⟨g, i, none⟩ (.string s)).cell? a2 = some v2 ∧ (w.setCell ⟨g, i, none⟩ (.string s)).cell? ⟨g, i, none⟩ = some (outv g i (w.setCell ⟨g, i, none⟩ (.string s))) ∧ (w.setCell ⟨g, i, none⟩ (.string s)).frozen? ⟨g, i, none⟩ = false ∧ KeepR W0.heap.size g n i L W0 (w.setCell ⟨g, i, none⟩ (.string s)) := by
  obtain ⟨h0, h1, h2, h3, h4, ⟨L', h5, h6⟩, h7⟩ := h
  have ho := h5.put i s
  have hi : i < n ∨ n ≤ i := by omega
  refine ⟨cell_puts n0 h0, cell_puts n1 h1, cell_puts n2 h2, ?_, ho.frozen i, ⟨L'.set i s, ho, fun j hj => ?_⟩, h7.setCell h5.ge _⟩
  · have e : (w.setCell ⟨g, i, none⟩ (.string s)).cell? ⟨g, i, none⟩ = some (.string s) := World.cell?_setCell_same _ _ _ h3
    exact outv_is e
  · rw [← h6 j hj]
    simp [Ne.symm hj]
set_option maxRecDepth 100000 in
set_option maxHeartbeats 1000000 in
theorem sxtext_row (b off c : Nat) (ps : List Sec) (w : World) (h0 : 0 < ps.length) (hv : ValidS ps) (hP : PowAt w) (HOK : Hid (Calls Tryz.prog 63 #[.slice (some ⟨b, off, none⟩) ps.length c] w fun e w' => e = .returned (.bool true) ∧ Below w.heap.size w w')) (hc : ∀ i, i < ps.length → SecAt w b (off + i * 3) (ps.getD i sec0)) :
    Calls Tryz.prog 29 #[.slice (some ⟨b, off, none⟩) ps.length c] w fun e w' => e = .returned (.string ⟨(sxtJ ps).toArray⟩) ∧ Below w.heap.size w w' := by
  obtain ⟨i0, hi, hz0, hz1, hz2⟩ := strinfo_parts infoStrC
  have HV := Lib.hid hv
  have h12 := hv.1
  have hne : ((ps.length : Int) == 0) = false := by rw [beq_eq_false_iff_ne]; omega
  have HC := Lib.hid hc
  have HP := Lib.hid hP
  have HLEN := Lib.hid (sxtJ_len ps.length ps rfl hv.sz)
  clear hc hP hv
  go_enter Tryz.func29, Tryz.ntmps29
  go_wp2_with (go_at_call 63; refine HOK.out.mono ?_; rintro e w0 ⟨rfl, hb⟩; refine Hid.out ?_)
  refine Lib.hid ?_
  have HB0 := Lib.hid hb
  have HC := Lib.hid (fun i h => (HC.out i h).below hb)
  have HP := Lib.hid (HP.out.below hb)
  clear hb HOK
  go_wp2_with (at_make; refine wpList_make_full _ rfl _ _ 49 rfl w0.heap.size 9 i0 (.string ⟨#[]⟩) 1 Tryz.underlying49 hi hz0 hz1 _ _ _ _ ps.length rfl rfl rfl rfl (by rw [hz2]; omega) (by unfold maxLen; omega) (Nat.le_refl _) ?_)
  intro w1 hown hg
  have hb : Below w0.heap.size w0 w1 := (Below.refl _ _).grown hg (Nat.le_refl _) (fun k hk => by cases hk)
  have hl0 : (List.replicate ps.length e0).length = ps.length := List.length_replicate
  have HO := Lib.hid (show OwnC w1 w0.heap.size w0.heap.size ps.length ps.length (List.replicate ps.length e0) by
    rw [made_str] at hown; exact hown)
  obtain ⟨L0, hL0⟩ : ∃ L0, L0 = List.replicate ps.length e0 := ⟨_, rfl⟩
  rw [← hL0] at HO hl0
  have HB := Lib.hid hb
  clear hown hg hb hL0 hi hz0 hz1 hz2
  go_wp2_with (fail)
  go_loopw [17] (fun i wr => ∃ (k : Nat) (L : List ByteArray), k ≤ ps.length ∧ i = .int .i64 k ∧ L.length = ps.length ∧ (∀ j, j < k → L.getD j e0 = secS (ps.getD j sec0)) ∧ OwnC wr w0.heap.size w0.heap.size ps.length ps.length L ∧ Below w0.heap.size w0 wr) (fun i _ => ps.length - (intOf i).toNat)
  case atStart => exact ⟨0, L0, Nat.zero_le _, rfl, hl0, fun j hj => by omega, HO.out, HB.out⟩
  case round =>
    obtain ⟨k, L, hk, rfl, hLl, hL, ho, hbel⟩ := hrel
    have HL := Lib.hid hL
    have HLL := Lib.hid hLl
    clear hL hLl
    by_cases hlt : k < ps.length
    · have hkn : (k : Int) < (ps.length : Int) := by omega
      obtain ⟨c0, c1, c2⟩ := (HC.out k hlt).below hbel
      have hok := (HV.out.2.1 k hlt).1
      obtain ⟨⟨f0, f1⟩, t0, t1⟩ := okSec_ends hok
      have hcs := cols_size (okSec_col hok)
      have HSET := Lib.hid (show ∀ s, s = secS (ps.getD k sec0) → ∀ j, j < k + 1 → (L.set k s).getD j e0 = secS (ps.getD j sec0) from fun s hs j hj => by
        by_cases e : k = j
        · subst e
          have hkl : k < L.length := by rw [HLL.out]; exact hlt
          rw [hs]
          simp [hkl]
        · rw [← HL.out j (by omega)]
          simp [e])
      generalize ps.getD k sec0 = p at *
      obtain ⟨f, t, x⟩ := p
      simp only at c0 c1 c2 f0 f1 t0 t1 hcs
      have HD := Lib.hid (fun w hp => show Calls Tryz.prog 50 #[.int .i64 f] w fun e w' => e = .returned (.string (itoaS f)) ∧ Below w.heap.size w w' from decimal_any f w (by omega) (by omega) hp)
      have HE := Lib.hid (fun w hp => show Calls Tryz.prog 50 #[.int .i64 t] w fun e w' => e = .returned (.string (itoaS t)) ∧ Below w.heap.size w w' from decimal_any t w (by omega) (by omega) hp)
      have z1 := itoa_size f0 f1
      have z2 := itoa_size t0 t1
      have HSET := Lib.hid (HSET.out _ rfl)
      rw [show secS (f, t, x) = itoaS f ++ ⟨#[45]⟩ ++ itoaS t ++ x from rfl] at HSET
      obtain ⟨u, hu⟩ : ∃ u, u = itoaS f := ⟨_, rfl⟩
      obtain ⟨v, hvv⟩ : ∃ v, v = itoaS t := ⟨_, rfl⟩
      rw [← hu] at HD z1 HSET
      rw [← hvv] at HE z2 HSET
      clear hu hvv hok
      have m2 : (⟨#[45]⟩ : ByteArray).size = 1 := rfl
      have q1 := fun w => run_string_add_sum (P := Tryz.prog) (w := w) u ⟨#[45]⟩ (by omega)
      have q2 := fun w => run_string_add_sum (P := Tryz.prog) (w := w) (u ++ ⟨#[45]⟩) v (by simp only [ByteArray.size_append]; omega)
      have q3 := fun w => run_string_add_sum (P := Tryz.prog) (w := w) (u ++ ⟨#[45]⟩ ++ v) x (by simp only [ByteArray.size_append]; omega)
      have o0 := ho.cell k hlt
      have fz := ho.frozen k
      generalize L.getD k e0 = z at o0
      have hne2 : w0.heap.size ≠ wr.heap.size := by have := lt_of_cell o0; simp at this; omega
      have hbx : Below wr.heap.size wr (wr.alloc (.cells #[.int .i64 f, .int .i64 t, .string x] 52)) := (Below.refl _ _).alloc (Nat.le_refl _) _
      have HKR := Lib.hid (show KeepR w0.heap.size w0.heap.size ps.length k L w0 (wr.alloc (.cells #[.int .i64 f, .int .i64 t, .string x] 52)) from ⟨⟨L, ho.below hbx, fun _ _ => rfl⟩, Below.next hbel hbx⟩)
      have o1 := outv_is (cell_below o0 hbx)
      have fz1 := frozen_kept hbx fz (lt_of_cell o0)
      have hn0 : wr.heap.size ≠ w0.heap.size := fun e => hne2 e.symm
      clear hbel ho hbx
      go_wp2_with (fail)
      go_region_held3 (fun w' => w'.cell? ⟨wr.heap.size, 0, none⟩ = some (.int .i64 f) ∧ w'.cell? ⟨wr.heap.size, 1, none⟩ = some (.int .i64 t) ∧ w'.cell? ⟨wr.heap.size, 2, none⟩ = some (.string x) ∧ w'.cell? ⟨w0.heap.size, k, none⟩ = some (outv w0.heap.size k w') ∧ w'.frozen? ⟨w0.heap.size, k, none⟩ = false ∧ KeepR w0.heap.size w0.heap.size ps.length k L w0 w')
        (first | assumption | exact keepR (by assumption) (by assumption) | exact drewR (by assumption) | exact putR hn0 hn0 hn0 (by assumption) | exact drewR ⟨by simp, by simp, by simp, o1, fz1, HKR.out⟩ | exact ⟨by simp, by simp, by simp, o1, fz1, HKR.out⟩)
        (first
          | (go_at_call 50; (first | (with_reducible refine (HD.out _ ?_).mono ?_) | (with_reducible refine (HE.out _ ?_).mono ?_)); (exact HP.out.below (by have hS : KeepR w0.heap.size w0.heap.size ps.length k L w0 _ := (by assumption : _ ∧ _ ∧ _ ∧ _ ∧ _ ∧ KeepR w0.heap.size w0.heap.size ps.length k L w0 _).2.2.2.2.2; exact hS.2)); rintro e w3 ⟨rfl, hb⟩))
      rename_i w2 hb1 hH
      obtain ⟨-, -, -, -, -, ⟨L', hO, hLk⟩, hB2⟩ := hH
      have o3 := cell_below (cell_below (w := (wr.alloc (.cells #[.int .i64 f, .int .i64 t, .string x] 52)).drew) o1 hb1) hb
      have hk2 : L'.getD k e0 = u ++ ⟨#[45]⟩ ++ v ++ x := by
        have h1 := hO.cell k hlt
        rw [World.cell?_setCell_same _ _ _ o3] at h1
        simpa using h1.symm
      have HS2 := Lib.hid (show ∀ j, j < k + 1 → L'.getD j e0 = secS (ps.getD j sec0) from fun j hj => by
        by_cases e : j = k
        · subst e
          have := HSET.out j (by omega)
          have hkl : j < L.length := by rw [HLL.out]; exact hlt
          rw [hk2, ← this]
          simp [hkl]
        · rw [hLk j e]; exact HL.out j (by omega))
      have HO2 := Lib.hid hO
      have HB2 := Lib.hid hB2
      have HLL2 := Lib.hid (show L'.length = ps.length from hO.len)
      clear hO hB2 hLk hk2 o3 hb hb1 o1 fz1 o0 fz hn0 hne2 HSET HL HKR
      go_wp2_with (fail)
      go_roundw
      case rel => exact ⟨k + 1, L', by omega, by go_num, HLL2.out, HS2.out, HO2.out, HB2.out⟩
      case measure => simp [intOf]; omega
    · obtain rfl : k = ps.length := by omega
      have hLe : L = ps.map secS := by
        apply List.ext_getElem
        · rw [HLL.out]; simp
        · intro i h1 h2
          have hi : i < ps.length := by simpa using h2
          have := HL.out i hi
          simpa [h1, hi] using this
      have hj : Lib.join ((ps.map secS).map (·.data.toList)) (⟨#[44]⟩ : ByteArray).data.toList = sxtJ ps := by
        unfold sxtJ
        congr 1
        rw [List.map_map]
        rfl
      have hcs : ∀ (j : Nat) x, (ps.map secS)[j]? = some x → wr.cell? ⟨w0.heap.size, 0 + j, none⟩ = some (.string x) := by
        intro j x hx
        have hlj : j < ps.length := by have := (List.getElem?_eq_some_iff.1 hx).1; simpa using this
        rw [Nat.zero_add, ho.cell j hlj, hLe]
        simp only [List.getElem?_map, List.getElem?_eq_getElem hlj, Option.map_some] at hx
        rw [← Option.some.inj hx]
        simp [hlj]
      have hsz : w0.heap.size < wr.heap.size := by have := lt_of_cell (ho.cell 0 h0); simpa using this
      have hJ := Any.strings_Join Tryz.lays156 Tryz.Builder_Extra_156 w0.heap.size 0 ps.length (ps.map secS) ⟨#[44]⟩ wr hcs hsz (by simp; omega) (by simp) (by rw [hj]; have := HLEN.out; omega)
      rw [hj, List.length_map] at hJ
      have HJ := Lib.hid hJ
      have HBR := Lib.hid (Below.next HB0.out hbel)
      clear hJ hj hcs hsz ho hbel hLe
      obtain ⟨t, ht⟩ : ∃ t : ByteArray, t = ⟨(sxtJ ps).toArray⟩ := ⟨_, rfl⟩
      rw [← ht] at HJ
      have HT := Lib.hid ht
      clear ht
      go_wp2_with (go_at_call 52; refine HJ.out.mono ?_; rintro e w2 ⟨rfl, hb2⟩)
      go_ret
      exact ⟨retS HT.out, Below.next HBR.out hb2⟩
theorem secstext_any (v : Value) (ps : List Sec) (w : World) (h : SecAre w v ps) (hP : PowAt w) :
    Calls Tryz.prog 29 #[v] w fun e w' => e = .returned (.string (secText ps)) ∧ Below w.heap.size w w' := by
  have HS := okay_any v ps w h
  cases hv : validS ps
  · rw [hv] at HS
    have HK := Lib.hid HS
    have HT := Lib.hid (show secText ps = ⟨#[]⟩ by unfold secText; rw [hv]; rfl)
    obtain ⟨a, c, rfl, h⟩ := h
    clear h HS hP
    go_enter Tryz.func29, Tryz.ntmps29
    go_wp2_with (go_at_call 63; refine HK.out.mono ?_; rintro e w1 ⟨rfl, hb⟩)
    go_ret
    exact ⟨retS HT.out.symm, hb⟩
  · have HT := show secText ps = sxtA ps by unfold secText; rw [hv]; rfl
    rw [hv] at HS
    rw [HT]
    obtain ⟨a, c, rfl, h⟩ := h
    by_cases h0 : ps.length = 0
    · have HK := Lib.hid HS
      have HT2 := Lib.hid (show sxtA ps = ⟨#[45]⟩ by unfold sxtA; rw [if_pos h0])
      have hz : ((ps.length : Int) == 0) = true := by rw [h0]; rfl
      clear h HS h0 HT hv hP
      go_enter Tryz.func29, Tryz.ntmps29
      go_wp2_with (go_at_call 63; refine HK.out.mono ?_; rintro e w1 ⟨rfl, hb⟩)
      go_ret
      exact ⟨retS HT2.out.symm, hb⟩
    · obtain ⟨b, off, rfl, hc⟩ := h.2.resolve_left (by intro e; rw [e] at h0; exact h0 rfl)
      rw [show sxtA ps = ⟨(sxtJ ps).toArray⟩ by unfold sxtA; rw [if_neg h0]]
      exact sxtext_row b off c ps w (by omega) (validS_iff.1 hv) hP (Lib.hid HS) hc
end Go.Proofs.YtlelcecbpahliaaGreatDoor
