/- The program's reading of numbers between separators. -/
import Derived.Test.YtlelcecbpahliaaGreatDoorSplitM
import Derived.Test.YtlelcecbpahliaaGreatDoorNumI
import Derived.Test.YtlelcecbpahliaaGreatDoorSlices
import Derived.Test.YtlelcecbpahliaaGreatDoorKit
import Derived.Test.YtlelcecbpahliaaGreatDoorDtxM
import Derived.OwnWalk
import Derived.Laws.OwnMore
namespace Go.Proofs.YtlelcecbpahliaaGreatDoor
open Go.ChangeShapes Go.WideShapes Go.ChangeAt Go.RowKit Pm

theorem infoI64 : (Tryz.prog.info? 2).map (fun i => (i.zero, i.size, i.bytes)) = some (some (.int .i64 0), 1, 8) := by kernel_rfl
/-- The library's own variable holds some number. -/
def LenAt7 (w : World) : Prop := ∃ m, w.cell? ⟨Tryz.laysM147_ren.g 1, 0, none⟩ = some (.int .i64 m)
theorem LenAt7.below {w w' : World} (h : LenAt7 w) (hb : Below w.heap.size w w') : LenAt7 w' := by
  obtain ⟨m, hm⟩ := h
  exact ⟨m, cell_below hm hb⟩
theorem len7_of {w : World} (h : w.ShapedOpen Tryz.prog) : LenAt7 w := Tryz.laysM147.s1_3 w h

/-- The pieces, at most k + 1. -/
def pcs (c : UInt8) (k : Nat) (s : ByteArray) : List ByteArray := Lib.splitB ⟨#[c]⟩ 0 (min (k + 1) (s.size + 1) - 1) s
theorem splitB_part (sep : ByteArray) : ∀ (k : Nat) (s p : ByteArray), p ∈ Lib.splitB sep 0 k s → p.size ≤ s.size := by
  intro k
  induction k with
  | zero => intro s p h; simp [Lib.splitB] at h; subst h; exact Nat.le_refl _
  | succ k ih =>
    intro s p h
    unfold Lib.splitB at h
    split at h
    · simp at h; subst h; exact Nat.le_refl _
    · rcases List.mem_cons.1 h with rfl | h
      · rw [ByteArray.size_extract]; omega
      · have := ih _ _ h
        rw [ByteArray.size_extract] at this; omega
theorem pcs_part (c : UInt8) (k : Nat) (s p : ByteArray) (h : p ∈ pcs c k s) : p.size ≤ s.size := splitB_part _ _ s p h

/-- Strings in a row of cells. -/
def StrsAt (w : World) (b : Nat) (ps : List ByteArray) : Prop := ∀ i, i < ps.length → w.cell? ⟨b, i, none⟩ = some (.string (ps.getD i ⟨#[]⟩))
theorem StrsAt.below {w w' : World} {b : Nat} {ps : List ByteArray} (h : StrsAt w b ps) (hb : Below w.heap.size w w') : StrsAt w' b ps := fun i hi => cell_below (h i hi) hb
def SplitRet (ps : List ByteArray) (w : World) (e : Ending) (w' : World) : Prop :=
  ∃ cap : Nat, e = .returned (.slice (some ⟨w.heap.size, 0, none⟩) ps.length cap) ∧ StrsAt w' w.heap.size ps ∧ Below w.heap.size w w'

theorem splitn_any (s : ByteArray) (c : UInt8) (k : Nat) (w : World) (hs : s.size ≤ 1048576) (hk : k ≤ 100) (hl : LenAt7 w) :
    Calls Tryz.prog 102 #[.string s, .string ⟨#[c]⟩, .int .i64 ((k + 1 : Nat) : Int)] w (SplitRet (pcs c k s) w) := by
  obtain ⟨m, hm⟩ := hl
  have h := Any.strings_SplitN { Tryz.laysM147 with } Tryz.laysM147.i9 s ⟨#[c]⟩ (k + 1) m w (by omega) hm (Nat.le_refl 1) (by omega) (by omega)
  refine h.mono fun e w' ⟨he, hw⟩ => ⟨_, he, ?_, by rw [hw]; exact (Below.refl _ _).alloc (Nat.le_refl _) _⟩
  intro i hi
  have e : (pcs c k s)[i]? = some ((pcs c k s).getD i ⟨#[]⟩) := by simp [hi]
  rw [hw, World.cell?_alloc_new]
  show (Lib.cellsOf (pcs c k s) _)[i]? = _
  unfold Lib.cellsOf
  rw [List.getElem?_toArray, List.getElem?_append_left (by simpa using hi), List.getElem?_map, e]
  rfl

/-! ### Numbers of 32 bits -/
def pOk (p : ByteArray) : Bool := match Lib.parseIntB 32 p.data.toList with | .ok _ => true | _ => false
def pVal (p : ByteArray) : Int := match Lib.parseIntB 32 p.data.toList with | .ok v => v | _ => 0
theorem p_yes {p : ByteArray} (h : pOk p = true) : Lib.parseIntB 32 p.data.toList = .ok (pVal p) := by
  unfold pOk at h
  unfold pVal
  split at h
  · rename_i v hv; rw [hv]
  · cases h
theorem p_no {p : ByteArray} (h : pOk p = false) (v : Int) : Lib.parseIntB 32 p.data.toList ≠ .ok v := by
  intro e
  unfold pOk at h
  rw [e] at h
  cases h
theorem pVal_bd (p : ByteArray) : -2147483648 ≤ pVal p ∧ pVal p ≤ 2147483647 := by
  unfold pVal
  split
  · rename_i v hv
    unfold Lib.parseIntB at hv
    split at hv
    · cases hv
    · simp only [] at hv
      split at hv
      · cases hv
      · cases hv
      · rename_i u hu
        split at hv
        · cases hv
        · split at hv
          · cases hv
          · simp only [Lib.NumEnd.ok.injEq] at hv
            subst hv
            split <;> omega
  · omega
theorem parse32_ok (s : ByteArray) (w : World) (hs : s.size ≤ 281474976710656) (h : pOk s = true) :
    Calls Tryz.prog 68 #[.string s, .int .i64 10, .int .i64 32] w fun e w' => e = .returned (.tuple #[.int .i64 (pVal s), .nilIface]) ∧ Below w.heap.size w w' := by
  refine (Any.strconv_ParseInt_10_at32_ok Tryz.laysC174 s (by omega) _ (p_yes h) w).mono fun e w' ⟨he, hw⟩ => ⟨he, ?_⟩
  rcases hw with rfl | ⟨t, rfl⟩
  · exact Below.refl _ _
  · exact Lib.bytesWorld_below _ _ _
theorem parse32_no (s : ByteArray) (w : World) (hs : s.size ≤ 281474976710656) (hE : ErrsAt w) (h : pOk s = false) :
    Calls Tryz.prog 68 #[.string s, .int .i64 10, .int .i64 32] w (NoParse w) := by
  obtain ⟨⟨tp, p, h1⟩, tq, q, h2⟩ := hE
  rcases h3 : Lib.parseIntB 32 s.data.toList with v | _ | _
  · exact absurd h3 (p_no h v)
  · refine (Any.strconv_ParseInt_10_at32_syntax_var Tryz.laysC174 s hs h3 tq q w h2).mono fun e w' ⟨N, he, _, _, hb⟩ => ⟨_, _, _, he, hb⟩
  · refine (Any.strconv_ParseInt_10_at32_range_var Tryz.laysC174 s hs h3 tp p w h1).mono fun e w' ⟨N, he, _, _, hb⟩ => ⟨_, _, _, he, hb⟩

/-! ### The numbers -/
def intVs (zs : List Int) : List Value := zs.map (Value.int .i64)
/-- How the reading ends: none, or the numbers in a slice of the call's own. -/
def PartsRet (ps : List ByteArray) (k : Nat) (w : World) (e : Ending) (w' : World) : Prop :=
  ((ps.length = k ∧ ps.all pOk = true) ∧ ∃ b : Nat, e = .returned (.tuple #[.slice (some ⟨b, 0, none⟩) k k, .bool true]) ∧ (∀ i, i < k → w'.cell? ⟨b, i, none⟩ = some (.int .i64 ((ps.map pVal).getD i 0))) ∧ Below w.heap.size w w') ∨
  (¬ (ps.length = k ∧ ps.all pOk = true) ∧ e = .returned (.tuple #[.slice none 0 0, .bool false]) ∧ Below w.heap.size w w')

theorem parts_len (s : ByteArray) (c : UInt8) (k : Nat) (w : World) (hs : s.size ≤ 1048576) (hk : k ≤ 3) (hl : LenAt7 w) (h : (pcs c k s).length ≠ k) :
    Calls Tryz.prog 62 #[.string s, .string ⟨#[c]⟩, .int .i64 k] w (PartsRet (pcs c k s) k w) := by
  have HS := splitn_any s c k w hs (by omega) hl
  rw [show ((k + 1 : Nat) : Int) = (k : Int) + 1 by omega] at HS
  obtain ⟨ps, hps⟩ : ∃ ps, ps = pcs c k s := ⟨_, rfl⟩
  rw [← hps] at HS h ⊢
  have HS := Lib.hid HS
  have HN := Lib.hid h
  have b1 : ((ps.length : Int) == (k : Int)) = false := by rw [beq_eq_false_iff_ne]; omega
  have b2 : ((ps.length : Int) != (k : Int)) = true := by rw [bne, b1]; rfl
  have b3 : (ps.length == k) = false := by rw [beq_eq_false_iff_ne]; exact h
  have b4 : (ps.length != k) = true := by rw [bne, b3]; rfl
  have hki : (k : Int) ≤ 3 := by omega
  clear hps h hl hs hk
  go_enter Tryz.func62, Tryz.ntmps62
  go_wp2_with (first
    | (go_at_call 102; refine HS.out.mono ?_; rintro e w1 ⟨cap, rfl, hst, hb⟩; have HST := Lib.hid hst; clear hst))
  go_ret2
  exact .inr ⟨fun e => HN.out e.1, rfl, hb⟩

set_option maxRecDepth 100000 in
set_option maxHeartbeats 1000000 in
theorem parts_in (s : ByteArray) (c : UInt8) (k : Nat) (w : World) (hs : s.size ≤ 1048576) (hk : k ≤ 3) (hk0 : 1 ≤ k) (hl : LenAt7 w) (hE : ErrsAt w) (h : (pcs c k s).length = k) :
    Calls Tryz.prog 62 #[.string s, .string ⟨#[c]⟩, .int .i64 k] w (PartsRet (pcs c k s) k w) := by
  obtain ⟨i0, hi, hz0, hz1, hz2⟩ := info_parts infoI64
  have HS := splitn_any s c k w hs (by omega) hl
  have HPT := Lib.hid (pcs_part c k s)
  rw [show ((k + 1 : Nat) : Int) = (k : Int) + 1 by omega] at HS
  obtain ⟨ps, hps⟩ : ∃ ps, ps = pcs c k s := ⟨_, rfl⟩
  rw [← hps] at HS h HPT ⊢
  subst h
  have HS := Lib.hid HS
  have HER := Lib.hid hE
  have hki : (ps.length : Int) ≤ 3 := by omega
  have hk0i : 1 ≤ (ps.length : Int) := by omega
  clear hps hl hE
  go_enter Tryz.func62, Tryz.ntmps62
  go_wp2_with (first
    | (go_at_call 102; refine HS.out.mono ?_; rintro e w1 ⟨cap, rfl, hst, hb⟩; have HST := Lib.hid hst; have HB1 := Lib.hid hb; clear hst hb; refine Hid.out ?_))
  refine Lib.hid ?_
  go_wp2_with (at_make; refine wpList_make_full _ rfl _ _ 90 rfl w1.heap.size 2 i0 (.int .i64 0) 1 Tryz.underlying90 hi hz0 hz1 _ _ _ _ ps.length rfl rfl rfl rfl (by rw [hz2]; omega) (by unfold maxLen; omega) (Nat.le_refl _) ?_)
  intro w2 hown hg
  have hb : Below w1.heap.size w1 w2 := (Below.refl _ _).grown hg (Nat.le_refl _) (fun k hk => by cases hk)
  obtain ⟨xs0, hx0⟩ : ∃ xs0, xs0 = (madeCells #[Value.int .i64 0] ps.length).toList := ⟨_, rfl⟩
  rw [← hx0] at hown
  have hl0 : xs0.length = ps.length := by have := hown.1; omega
  have HO := Lib.hid hown
  have HB := Lib.hid hb
  clear hown hg hb hx0
  go_wp2_with (fail)
  go_loopw [27] (fun i wr => ∃ (j : Nat) (xs : List Value), j ≤ ps.length ∧ i = .int .i64 j ∧ Hid ((ps.take j).all pOk = true) ∧ Hid (Upto xs j (intVs (ps.map pVal))) ∧ Hid (wr.ownsRow w1.heap.size 2 1 (.slice (some ⟨w1.heap.size, 0, none⟩) ps.length ps.length) ps.length xs) ∧ Hid (Below w1.heap.size w1 wr)) (fun i _ => ps.length - (intOf i).toNat)
  case atStart => exact ⟨0, xs0, Nat.zero_le _, rfl, Lib.hid rfl, Lib.hid ⟨by simpa [intVs] using hl0, fun j hj => by omega⟩, HO, HB⟩
  case round =>
    obtain ⟨j, xs, hj, rfl, HA, HU, HOW, HBR⟩ := hrel
    by_cases hlt : j < ps.length
    · have hcell := (HST.out.below HBR.out) j hlt
      have HAT := Lib.hid (show (ps.take (j + 1)).all pOk = ((ps.take j).all pOk && pOk (ps.getD j ⟨#[]⟩)) by rw [List.take_succ_eq_append_getElem hlt, List.all_append]; simp [hlt])
      have hmem : ps.getD j ⟨#[]⟩ ∈ ps := by simp [hlt]
      have hsz := HPT.out _ hmem
      have HBAD := Lib.hid (show pOk (ps.getD j ⟨#[]⟩) = false → ps.all pOk = false from fun e => by
        cases c : ps.all pOk
        · rfl
        · have := List.all_eq_true.1 c _ hmem; rw [e] at this; cases this)
      have hst : (intVs (ps.map pVal))[j]? = some (.int .i64 (pVal (ps.getD j ⟨#[]⟩))) := by simp [intVs, hlt]
      have HUP := Lib.hid (HU.out.step (u := .int .i64 (pVal (ps.getD j ⟨#[]⟩))) (by simpa [intVs] using hlt) hst)
      obtain ⟨p, hp⟩ : ∃ p, p = ps.getD j ⟨#[]⟩ := ⟨_, rfl⟩
      rw [← hp] at hcell HAT hsz HBAD HUP
      clear hp hst hmem
      cases hc : pOk p
      · have HNP := Lib.hid (fun w hE => parse32_no p w (by omega) hE hc)
        have HNO := Lib.hid (HBAD.out hc)
        clear hc
        go_wp2_with (first
          | (go_at_call 68; refine (HNP.out _ (HER.out.below (HB1.out.trans (HBR.out.mono HB1.out.size)))).mono ?_; rintro e w3 ⟨n, t, a, rfl, hb3⟩; have HB3 := Lib.hid (HBR.out.trans (hb3.mono HBR.out.size)); clear hb3))
        go_ret2
        exact .inr ⟨fun e => (by have e2 := e.2; rw [HNO.out] at e2; cases e2), rfl, HB1.out.trans (HB3.out.mono HB1.out.size)⟩
      · have HYP := Lib.hid (fun w => parse32_ok p w (by omega) hc)
        have HOK := Lib.hid hc
        have hzb := pVal_bd p
        obtain ⟨z, hz⟩ : ∃ z, z = pVal p := ⟨_, rfl⟩
        rw [← hz] at HYP HUP hzb
        obtain ⟨zb0, zb1⟩ := hzb
        clear hc hz
        go_wp2_with (first
          | (go_at_call 68; refine (HYP.out _).mono ?_; rintro e w3 ⟨rfl, hb3⟩; refine Hid.out ?_))
        refine Lib.hid ?_
        have hown2 := own_below HOW.out hb3
        have hbel2 := HBR.out.trans (hb3.mono HBR.out.size)
        have hold := hown2.cellAt j (by omega)
        rw [List.getElem?_eq_getElem (by have := HU.out.1; simp [intVs] at this; omega)] at hold
        have hfz := hown2.frozenAt j
        have HST2 := Lib.hid (hown2.stored j (.int .i64 z)).1
        have HB2 := Lib.hid (hbel2.setCell (p := ⟨w1.heap.size, j, none⟩) (Nat.le_refl _) (.int .i64 z))
        clear hown2 hbel2 hb3
        go_wp2_with (fail)
        go_roundw
        case rel => exact ⟨j + 1, _, by omega, by go_num, Lib.hid (by rw [HAT.out, HA.out, HOK.out]; rfl), HUP, HST2, HB2⟩
        case measure => simp [intOf]; omega
    · obtain rfl : j = ps.length := by omega
      have HFull := Lib.hid (show ps.all pOk = true by rw [← HA.out, List.take_of_length_le (Nat.le_refl _)])
      have hxs : xs = intVs (ps.map pVal) := by
        have h := HU.out
        rw [show ps.length = (intVs (ps.map pVal)).length by simp [intVs]] at h
        exact h.all
      have HO2 := Lib.hid (hxs ▸ HOW.out)
      clear hxs
      go_wp2
      go_ret2
      refine .inl ⟨⟨rfl, HFull.out⟩, w1.heap.size, rfl, fun i hi2 => ?_, HB1.out.trans (HBR.out.mono HB1.out.size)⟩
      have := HO2.out.cellAt i (by omega)
      rw [this]
      simp [intVs, hi2]
end Go.Proofs.YtlelcecbpahliaaGreatDoor
