/- Reading a list of numbers: the model. -/
import Derived.Test.YtppfgcjeeokomaaDoorSplit
namespace Go.Proofs.YtppfgcjeeokomaaDoor
open Go.ChangeShapes Go.WideShapes Go.ChangeAt Go.RowKit Pm

/-- Is a piece a number of the list? -/
def numOk (p : ByteArray) : Bool := canB p.data.toList && inB (-1000000000000) 1000000000000 [numR p.data.toList]
def numP (p : ByteArray) : Int := numR p.data.toList
def rlB (s : ByteArray) : Bool := decide (s.data.toList = [45]) || (decide ((cutS 44 s).length ≤ 64) && (cutS 44 s).all numOk)
def rlZ (s : ByteArray) : List Int := if s.data.toList = [45] then [] else if rlB s = true then (cutS 44 s).map numP else []
def intV (zs : List Int) : List Value := zs.map (Value.int .i64)
def RLRet (s : ByteArray) (w : World) (e : Ending) (w' : World) : Prop :=
  ∃ v, e = .returned (.tuple #[v, .bool (rlB s)]) ∧ w'.ownsRow w.heap.size 2 1 v (rlZ s).length (intV (rlZ s)) ∧ Below w.heap.size w w'

theorem rl_dash {s : ByteArray} (h : s.data.toList = [45]) : rlB s = true ∧ rlZ s = [] := by
  unfold rlZ rlB; rw [if_pos h, decide_eq_true h]; exact ⟨rfl, rfl⟩
theorem rl_no {s : ByteArray} (h : s.data.toList ≠ [45]) (h2 : (decide ((cutS 44 s).length ≤ 64) && (cutS 44 s).all numOk) = false) : rlB s = false ∧ rlZ s = [] := by
  have e : rlB s = false := by unfold rlB; rw [decide_eq_false h, h2]; rfl
  unfold rlZ; rw [if_neg h, e]; exact ⟨rfl, rfl⟩
theorem rl_yes {s : ByteArray} (h : s.data.toList ≠ [45]) (h2 : (cutS 44 s).length ≤ 64) (h3 : (cutS 44 s).all numOk = true) : rlB s = true ∧ rlZ s = (cutS 44 s).map numP := by
  have e : rlB s = true := by unfold rlB; rw [decide_eq_true h2, h3]; simp
  unfold rlZ; rw [if_neg h, e]; exact ⟨rfl, rfl⟩

theorem own_mono {w : World} {B B' : Nat} {E : TypeId} {v : Value} {n : Nat} {xs : List Value} (h : w.ownsRow B E 1 v n xs) (hB : B' ≤ B) : w.ownsRow B' E 1 v n xs := by
  refine ⟨h.1, ?_⟩
  rcases h.2 with h2 | ⟨g, cap, cur, h1, h3, h4⟩
  · exact .inl h2
  · exact .inr ⟨g, cap, cur, h1, Nat.le_trans hB h3, h4⟩
theorem own_none (w : World) (B : Nat) (E : TypeId) : w.ownsRow B E 1 (.slice none 0 0) 0 [] := ⟨rfl, .inl ⟨rfl, rfl⟩⟩
theorem rlret {s : ByteArray} {w w' : World} {v : Value} {b : Bool} {zs : List Int} {n : Nat} (h : rlB s = b ∧ rlZ s = zs) (ho : w'.ownsRow w.heap.size 2 1 v n (intV zs)) (hb : Below w.heap.size w w') : RLRet s w (.returned (.tuple #[v, .bool b])) w' := by
  obtain ⟨h1, h2⟩ := h
  refine ⟨v, by rw [h1], ?_, hb⟩
  rw [h2]
  have e : n = zs.length := by have := ho.1; simp [intV] at this; omega
  rw [← e]; exact ho

theorem intV_snoc (zs : List Int) (z : Int) : intV (zs ++ [z]) = intV zs ++ [.int .i64 z] := by simp [intV]
theorem introw_snoc {w : World} {B : Nat} {E : TypeId} {v : Value} {zs : List Int} {z : Int} {ys : List Int} (e : ys = zs ++ [z]) (h : w.ownsRow B E 1 v (zs.length + 1) (intV zs ++ [.int .i64 z])) :
    w.ownsRow B E 1 v ys.length (intV ys) := by
  subst e
  rw [intV_snoc, List.length_append, List.length_singleton]; exact h
theorem take_snoc' {α β : Type} (f : α → β) (l : List α) (k : Nat) (hk : k < l.length) : (l.take (k + 1)).map f = (l.take k).map f ++ [f l[k]] := by
  rw [List.take_succ_eq_append_getElem hk, List.map_append]; rfl
theorem dash_yes {s : ByteArray} (h : s.data.toList = [45]) : (s.toList == ([45] : List UInt8)) = true := by
  rw [beq_iff_eq, ByteArray.toList_eq]; exact h
theorem dash_no {s : ByteArray} (h : s.data.toList ≠ [45]) : (s.toList == ([45] : List UInt8)) = false := by
  rw [beq_eq_false_iff_ne, ByteArray.toList_eq]; exact h
theorem numOk_no {p : ByteArray} {ps : List ByteArray} (k : Nat) (hk : k < ps.length) (hp : p = ps[k]'hk) (h : numOk p = false) : ps.all numOk = false := by
  rw [List.all_eq_false]
  exact ⟨ps[k], List.getElem_mem hk, by rw [← hp, h]; simp⟩

set_option maxRecDepth 100000 in
set_option maxHeartbeats 800000 in
theorem sreadlist_any (s : ByteArray) (w : World) (hs : s.size ≤ 1048576) :
    Calls Tryd.prog 34 #[.string s] w (RLRet s w) := by
  by_cases hd : s.data.toList = [45]
  · have hq := dash_yes hd
    have HR := Lib.hid (rl_dash hd)
    clear hd
    go_enter Tryd.func34, Tryd.ntmps34
    go_wp2
    go_ret2
    exact rlret HR.out (World.ownsRow_lit w #[] 0 (Nat.le_refl _) (by unfold maxLen; omega) rfl) ((Below.refl _ _).alloc (Nat.le_refl _) _)
  · have hq := dash_no hd
    have HSP := Lib.hid (show Calls Tryd.prog 52 #[.string s, .int .u8 44] w (OwnRet 9 (strV (cutS 44 s)) w) from ssplit_any s 44 w hs)
    have HPT := Lib.hid (cutS_part 44 s)
    by_cases h64 : (cutS 44 s).length ≤ 64
    · obtain ⟨i0, hi, hz0, hz1, hz2⟩ := info_parts info64
      have HY := Lib.hid (rl_yes hd h64)
      have HN := Lib.hid (fun (h : (cutS 44 s).all numOk = false) => rl_no hd (show (decide ((cutS 44 s).length ≤ 64) && (cutS 44 s).all numOk) = false by rw [h, Bool.and_false]))
      have hpos : 0 < (cutS 44 s).length := by rw [cutS_len]; omega
      clear hd
      obtain ⟨ps, hps⟩ : ∃ ps, ps = cutS 44 s := ⟨_, rfl⟩
      rw [← hps] at HSP HPT HY HN h64 hpos
      clear hps
      go_enter Tryd.func34, Tryd.ntmps34
      go_wp2_with (go_at_call 52; refine HSP.out.mono ?_; rintro e w1 ⟨v1, rfl, ho1, hb1⟩; refine Hid.out ?_)
      refine Lib.hid ?_
      rw [strV_len] at ho1
      obtain ⟨g, cap, rfl, _, _⟩ := ho1.form hpos
      have HO1 := Lib.hid ho1
      have HB1 := Lib.hid hb1
      clear ho1 hb1
      go_wp2_with (fail)
      go_loopw [5, 6] (fun v m wr => ∃ (k : Nat), m = .int .i64 k ∧ k ≤ ps.length ∧ (ps.take k).all numOk = true ∧ wr.ownsRow w1.heap.size 2 1 v ((ps.take k).map numP).length (intV ((ps.take k).map numP)) ∧ Below w1.heap.size w1 wr) (fun _ m _ => ps.length - (intOf m).toNat)
      case atStart => exact ⟨0, rfl, Nat.zero_le _, rfl, World.ownsRow_lit w1 #[] 0 (Nat.le_refl _) (by unfold maxLen; omega) rfl, (Below.refl _ _).alloc (Nat.le_refl _) _⟩
      case round =>
        obtain ⟨k, rfl, hk, hall, hown, hbel⟩ := hrel
        have HA := Lib.hid hall
        have HB := Lib.hid hbel
        clear hall hbel
        by_cases hlt : k < ps.length
        · have hcell := (own_below HO1.out HB.out).cellAt k (by omega)
          rw [show (strV ps)[k]? = some (.string ps[k]) by simp [strV, hlt]] at hcell
          have HT := Lib.hid (take_snoc' numP ps k hlt)
          have HAT := Lib.hid (show (ps.take (k + 1)).all numOk = ((ps.take k).all numOk && numOk ps[k]) by rw [List.take_succ_eq_append_getElem hlt, List.all_append]; simp)
          have HNO := Lib.hid (fun (h : numOk ps[k] = false) => HN.out (numOk_no (p := ps[k]) k hlt rfl h))
          have hsz := HPT.out _ (List.getElem_mem hlt)
          have hlk : ((ps.take k).map numP).length = k := by simp; omega
          obtain ⟨zs, hzs⟩ : ∃ zs, zs = (ps.take k).map numP := ⟨_, rfl⟩
          rw [← hzs] at hown HT hlk
          have HLK := Lib.hid hlk
          clear hzs hlk
          obtain ⟨p, hp⟩ : ∃ p, p = ps[k] := ⟨_, rfl⟩
          rw [← hp] at hcell HT HAT HNO hsz
          clear hp
          have HSN := Lib.hid (fun w => snum_any p w (by unfold maxLen; omega))
          obtain ⟨z, hz⟩ : ∃ z, z = numR p.data.toList := ⟨_, rfl⟩
          have HZ := Lib.hid (show numP p = z from hz.symm)
          cases hc : canB p.data.toList
          · have hno := HNO.out (by unfold numOk; rw [hc]; rfl)
            rw [hc, ← hz] at HSN
            have HNO2 := Lib.hid hno
            clear hno hc hz
            go_wp2_with (first | (go_at_call 51; refine (HSN.out _).mono ?_; rintro e w2 ⟨rfl, rfl⟩))
            go_ret2
            exact rlret HNO2.out (own_none _ _ _) (HB1.out.trans (HB.out.mono HB1.out.size))
          · rw [hc, ← hz] at HSN
            cases hin : inB (-1000000000000) 1000000000000 [z]
            · have HNO2 := Lib.hid (HNO.out (by unfold numOk; rw [hc, ← hz, hin]; rfl))
              clear hc hz
              go_wp2_with (first | (go_at_call 51; refine (HSN.out _).mono ?_; rintro e w2 ⟨rfl, rfl⟩) | (go_at_call 49; refine (in_any _ _ _ _).mono ?_; rintro e w3 ⟨rfl, rfl⟩))
              go_ret2
              exact rlret HNO2.out (own_none _ _ _) (HB1.out.trans (HB.out.mono HB1.out.size))
            · have HOK := Lib.hid (show numOk p = true by unfold numOk; rw [hc, ← hz, hin]; rfl)
              clear hc hz
              go_wp2_with (first | (go_at_call 51; refine (HSN.out _).mono ?_; rintro e w2 ⟨rfl, rfl⟩) | (go_at_call 49; refine (in_any _ _ _ _).mono ?_; rintro e w3 ⟨rfl, rfl⟩) | (at_builtin; refine wpList_append_own _ rfl _ _ 30 rfl w1.heap.size 2 i0 (.int .i64 0) 1 8 Tryd.underlying30 hi hz0 hz1 hz2 rfl (by decide) _ _ _ rfl (hown.alloc _) ⟨wr.heap.size, 0, none⟩ 1 1 [.int .i64 z] rfl rfl (app_cells _ _ _) (by intro u hu; simp at hu; subst hu; rfl) (by rw [HLK.out]; unfold maxLen; omega) (by rw [HLK.out]; omega) (by have := HB.out.size; simp; omega) ?_))
              intro v' w4 hown' hgrow _
              have hown2 := introw_snoc (ys := (ps.take (k + 1)).map numP) (zs := zs) (z := z) (by rw [HT.out, HZ.out]) hown'
              have hb2 := below_app HB.out (Nat.le_refl _) hown hgrow
              clear hown' hgrow hown
              have HO := Lib.hid hown2
              have HB2 := Lib.hid hb2
              clear hown2 hb2
              go_wp2
              go_roundw
              case rel => exact ⟨k + 1, by go_num, by omega, by rw [HAT.out, HA.out, HOK.out]; rfl, HO.out, HB2.out⟩
              case measure => simp [intOf]; omega
        · obtain rfl : k = ps.length := by omega
          have HFull := Lib.hid (HY.out (by rw [← HA.out, List.take_of_length_le (Nat.le_refl _)]))
          rw [List.take_of_length_le (Nat.le_refl _)] at hown
          have HO := Lib.hid hown
          clear hown
          go_wp2
          go_ret2
          exact rlret HFull.out (own_mono HO.out HB1.out.size) (HB1.out.trans (HB.out.mono HB1.out.size))
    · have HN := Lib.hid (rl_no hd (show (decide ((cutS 44 s).length ≤ 64) && (cutS 44 s).all numOk) = false by rw [decide_eq_false h64]; rfl))
      have hpos : 0 < (cutS 44 s).length := by omega
      have h65 : (64 : Int) < ((cutS 44 s).length : Int) := by omega
      clear hd h64
      obtain ⟨ps, hps⟩ : ∃ ps, ps = cutS 44 s := ⟨_, rfl⟩
      rw [← hps] at HSP h65 hpos
      clear hps
      go_enter Tryd.func34, Tryd.ntmps34
      go_wp2_with (go_at_call 52; refine HSP.out.mono ?_; rintro e w1 ⟨v1, rfl, ho1, hb1⟩; refine Hid.out ?_)
      refine Lib.hid ?_
      rw [strV_len] at ho1
      obtain ⟨g, cap, rfl, _, _⟩ := ho1.form hpos
      have HB1 := Lib.hid hb1
      clear ho1 hb1
      go_wp2_with (fail)
      go_ret2
      exact rlret HN.out (own_none _ _ _) HB1.out
end Go.Proofs.YtppfgcjeeokomaaDoor
