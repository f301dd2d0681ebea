/- A light's tenths: the model's. -/
import Derived.Test.YtgcaipjknpcepabDoorPicM
import Derived.Laws.AppendOwn
namespace Go.Proofs.YtgcaipjknpcepabDoor
open Go.ChangeShapes Go.WideShapes Go.ChangeAt Go.RowKit Pm

/-- An owned row of bytes. -/
def OwnB (w : World) (B : Nat) (v : Value) (l : List UInt8) : Prop := w.ownsRow B 5 1 v l.length (Lib.byteCells l)
theorem OwnB.below {w w' : World} {B : Nat} {v : Value} {l : List UInt8} (h : OwnB w B v l) (hb : Below w.heap.size w w') : OwnB w' B v l := by
  refine ⟨h.1, ?_⟩
  rcases h.2 with h2 | ⟨g, cap, cur, h1, h3, h4, h5⟩
  · exact .inl h2
  · refine .inr ⟨g, cap, cur, h1, h3, ?_, h5⟩
    have hlt : g < w.heap.size := by
      rcases Nat.lt_or_ge g w.heap.size with h' | h'
      · exact h'
      · rw [Array.getElem?_eq_none h'] at h4; cases h4
    rw [hb.block g hlt]; exact h4
theorem OwnB.mono {w : World} {B B' : Nat} {v : Value} {l : List UInt8} (h : OwnB w B v l) (hB : B' ≤ B) : OwnB w B' v l := by
  refine ⟨h.1, ?_⟩
  rcases h.2 with h2 | ⟨g, cap, cur, h1, h3, h4⟩
  · exact .inl h2
  · exact .inr ⟨g, cap, cur, h1, Nat.le_trans hB h3, h4⟩
theorem OwnB.lit (w : World) (n : Nat) (hn : w.heap.size = n) : OwnB (w.alloc (.cells #[] 5)) n (.slice (some ⟨n, 0, Option.none⟩) 0 0) [] := by
  subst hn
  exact World.ownsRow_lit w #[] 0 (Nat.le_refl _) (by unfold maxLen; omega) rfl
theorem OwnB.form {w : World} {B : Nat} {v : Value} {l : List UInt8} (h : OwnB w B v l) (hp : 0 < l.length) : ∃ g cap, v = .slice (some ⟨g, 0, Option.none⟩) l.length cap ∧ B ≤ g ∧ ∀ k (h : k < l.length), w.cell? ⟨g, k, none⟩ = some (.int .u8 (l[k].toNat : Int)) := by
  obtain ⟨g, cap, rfl, hB⟩ : ∃ g cap, v = .slice (some ⟨g, 0, Option.none⟩) l.length cap ∧ B ≤ g := by
    rcases h.2 with ⟨_, e⟩ | ⟨g, cap, cur, h1, h3, _⟩
    · omega
    · exact ⟨g, cap, h1, h3⟩
  refine ⟨g, cap, rfl, hB, fun k hk => ?_⟩
  have h' : w.ownsRow B 5 1 (.slice (some ⟨g, 0, Option.none⟩) l.length cap) l.length (Lib.byteCells l) := h
  rw [h'.cellAt k (by omega)]
  simp [Lib.byteCells, hk]
theorem infoU8 : (Tryd.prog.info? 5).map (fun i => (i.zero, i.size, i.bytes)) = some (some (.int .u8 0), 1, 1) := by kernel_rfl
theorem u8_cells (wr : World) (x : Value) (T : TypeId) : ∀ j u, [x][j]? = some u → (wr.alloc (.cells #[x] T)).cell? ((⟨wr.heap.size, 0, none⟩ : Addr).add j) = some u := by
  intro j u hj
  match j, hj with
  | 0, hj => simp at hj; subst hj; simp [Addr.add]
theorem wpList_app_b {ops : Array Oper} {rest : List Oper} {o : Oper} {a : Act} {Q : Exit → Act → World → Prop} (hgd : o.guard = none) (s x : Operand)
    (B : Nat) (v : Value) (l : List UInt8) (c : UInt8) (z : Int) (hz : z = (c.toNat : Int)) (w0 wr : World) (T : TypeId) (hown : OwnB wr B v l) (hb : Below B w0 wr) (hB : B ≤ w0.heap.size) (hl : l.length ≤ 1048577)
    (ho : o.op = .call { callee := .builtin .append, args := #[s, x], argTypes := #[39, 39] })
    (hs : a.eval s = v) (n : Nat) (hn : wr.heap.size = n) (hx : a.eval x = .slice (some ⟨n, 0, none⟩) 1 1)
    (h : ∀ v' w', OwnB w' B v' (l ++ [c]) → Below B w0 w' → wpList Tryd.prog ops Q rest (a.put o.dst v') w') :
    wpList Tryd.prog ops Q (o :: rest) a (wr.alloc (.cells #[.int .u8 z] T)) := by
  subst hz hn
  obtain ⟨i0, hi, hz0, hz1, hz2⟩ := phinfo_parts infoU8
  have hsz := hb.size
  have hrow : (wr.alloc (.cells #[.int .u8 (c.toNat : Int)] T)).ownsRow B 5 1 v l.length (Lib.byteCells l) := hown.below ((Below.refl _ _).alloc (Nat.le_refl _) _)
  refine wpList_append_own _ hgd s x 39 ho B 5 i0 (.int .u8 0) 1 1 Tryd.underlying39 hi hz0 hz1 hz2 rfl (by decide) v l.length (Lib.byteCells l) hs hrow ⟨wr.heap.size, 0, none⟩ 1 1 [.int .u8 (c.toNat : Int)] hx rfl (u8_cells wr _ T) (by intro u hu; simp at hu; subst hu; rfl) (by unfold maxLen; omega) (by omega) (by simp; omega) ?_
  intro v' w' h2 h3 _
  refine h v' w' ?_ ?_
  · unfold OwnB
    have e2 : Lib.byteCells (l ++ [c]) = Lib.byteCells l ++ [.int .u8 (c.toNat : Int)] := by simp [Lib.byteCells]
    rw [e2, List.length_append, List.length_singleton]
    exact h2
  · exact (hb.alloc (Nat.le_trans hB hb.size) _).grown h3 (by simp; omega) (fun k hk => (hrow.lt k hk).1)
/-- What the model's tenths return. -/
def BytRet (l : List UInt8) (w : World) (e : Ending) (w' : World) : Prop := ∃ v, e = .returned v ∧ OwnB w' w.heap.size v l ∧ Below w.heap.size w w'
theorem unT_sgn {s : ByteArray} (h : s.toList = [] ∨ colB s = true) : unT (sgnb s) = if s.toList.isEmpty then 0 else s.data.toList.headD 0 := by
  unfold unT sgnb
  have hd : s.data.toList = s.toList := (ByteArray.toList_eq s).symm
  rw [hd]
  rcases h with h | h
  · rw [h]; rfl
  · rcases colB_cases h with h | h | h | h <;> rw [h] <;> rfl
set_option maxRecDepth 100000 in
set_option maxHeartbeats 1000000 in
theorem stenths_any (v : Value) (ps : List Ph) (w : World) (h : PhAre w v ps) (hv : ValP ps) :
    Calls Tryd.prog 22 #[v] w (BytRet ((tenL ps).map unT) w) := by
  obtain ⟨a, c, rfl, h⟩ := h
  obtain ⟨b, off, rfl, hc⟩ := h.2.resolve_left (by intro e; have := hv.pos; rw [e] at this; simp at this)
  have HC := Lib.hid hc
  have HV := Lib.hid hv
  have h40 := hv.most
  clear hc h hv
  go_enter Tryd.func22, Tryd.ntmps22
  go_wp2_with (fail)
  go_loopw [3, 4] (fun o i wr => ∃ (k : Nat), k ≤ ps.length ∧ i = .int .i64 k ∧ OwnB wr w.heap.size o ((tenL (ps.take k)).map unT) ∧ Below w.heap.size w wr) (fun _ i _ => ps.length - (intOf i).toNat)
  case atStart => exact ⟨0, Nat.zero_le _, rfl, OwnB.lit w _ rfl, by go_grown⟩
  case round =>
    obtain ⟨k, hk, rfl, hown, hbel⟩ := hrel
    have HO := Lib.hid hown
    have HB := Lib.hid hbel
    clear hown
    by_cases hlt : k < ps.length
    · have hkn : (k : Int) < (ps.length : Int) := by omega
      have c0 := cell_below (HC.out k hlt).1 hbel
      have hp : ps.getD k ph0 ∈ ps := by rw [ph_getD ps k hlt]; exact List.getElem_mem _
      have hln := HV.out.len _ hp
      have hcol := HV.out.col _ hp
      have HTK := Lib.hid (tenL_take ps k hlt)
      have HC1 := Lib.hid (fun w' (hb : Below w.heap.size w w') => cell_below (HC.out k hlt).2 hb)
      have htl : ((tenL (ps.take k)).map unT).length ≤ 600 := by
        have h1 := HV.out.ten.most
        have h2 : tenL ps = tenL (ps.take k) ++ tenL (ps.drop k) := by rw [← tenL_app, List.take_append_drop]
        rw [h2, List.length_append] at h1
        rw [List.length_map]
        omega
      generalize ps.getD k ph0 = p at *
      obtain ⟨x, y⟩ := p
      simp only at c0 hln hcol
      obtain ⟨y0, y1⟩ := hln
      obtain ⟨n, rfl⟩ := Int.eq_ofNat_of_zero_le (show 0 ≤ y by omega)
      have HU := Lib.hid (unT_sgn hcol)
      have HTP := Lib.hid (show (tenP (x, (n : Int))).map unT = List.replicate n (unT (sgnb x)) by unfold tenP; rw [List.map_replicate]; rfl)
      obtain ⟨u, hu⟩ : ∃ u, u = unT (sgnb x) := ⟨_, rfl⟩
      rw [← hu] at HU HTP
      obtain ⟨l, hl⟩ : ∃ l, l = (tenL (ps.take k)).map unT := ⟨_, rfl⟩
      rw [← hl] at HO htl
      have HL := Lib.hid (show (tenL (ps.take (k + 1))).map unT = l ++ List.replicate n u by rw [HTK.out, List.map_append, ← hl, HTP.out])
      have hn6 : n ≤ 600 := by omega
      clear hl hp hbel hu
      cases he : x.toList.isEmpty
      · have hx : ∃ c : UInt8, x.toList = [c] := by
          rcases hcol with h | h
          · rw [h] at he; cases he
          · rcases colB_cases h with h | h | h | h <;> exact ⟨_, h⟩
        obtain ⟨c, hc⟩ := hx
        have hsz : x.size = 1 := by rw [← size_toList, hc]; rfl
        have hxx : x = ⟨#[c]⟩ := WideShapes.bytes_inj (by rw [← ByteArray.toList_eq, hc])
        have h0 : ((x[0]'(by omega)).toNat : Int) = (u.toNat : Int) := by
          have := HU.out
          rw [he, ← ByteArray.toList_eq, hc] at this
          rw [this]
          subst hxx; rfl
        clear hc hxx HU hcol
        go_wp2_with (fail)
        go_loopw [3, 6] (fun o i wr2 => ∃ (q : Nat), q ≤ n ∧ i = .int .i64 q ∧ OwnB wr2 w.heap.size o (l ++ List.replicate q u) ∧ Below w.heap.size w wr2) (fun _ i _ => n - (intOf i).toNat)
        case atStart => exact ⟨0, Nat.zero_le _, rfl, by simpa using HO.out, HB.out⟩
        case round =>
          obtain ⟨q, hq, rfl, hown2, hbel2⟩ := hrel
          have HO2 := Lib.hid hown2
          have HB2 := Lib.hid hbel2
          have c1 := HC1.out _ hbel2
          have hql : (l ++ List.replicate q u).length ≤ 1048577 := by rw [List.length_append, List.length_replicate]; omega
          have HRE := Lib.hid (show l ++ List.replicate (q + 1) u = (l ++ List.replicate q u) ++ [u] by rw [List.replicate_succ', List.append_assoc])
          try simp only at c1
          clear hown2 hbel2
          by_cases hlq : q < n
          · have hqn : (q : Int) < (n : Int) := by omega
            go_wp2_with (at_builtin; (refine wpList_app_b rfl _ _ w.heap.size _ (l ++ List.replicate q u) u _ (by first | rfl | exact h0) w _ _ HO2.out HB2.out (Nat.le_refl _) hql rfl rfl _ rfl rfl ?_))
            intro v4 w4 h4 hb4
            have HO4 := Lib.hid h4
            have HB4 := Lib.hid hb4
            clear h4 hb4
            go_wp2
            go_roundw
            case rel => exact ⟨q + 1, by omega, by go_num, by rw [HRE.out, List.append_assoc]; exact HO4.out, HB4.out⟩
            case measure => simp [intOf]; omega
          · obtain rfl : q = n := by omega
            go_wp2
            go_roundw
            case rel => exact ⟨k + 1, by omega, by go_num, by rw [HL.out]; exact HO2.out, HB2.out⟩
            case measure => simp [intOf]; omega
      · have h0 : (0 : Int) = (u.toNat : Int) := by
          have := HU.out
          rw [he] at this
          rw [this]; rfl
        have HZ := Lib.hid h0
        clear HU hcol h0
        go_wp2_with (fail)
        go_loopw [3, 6] (fun o i wr2 => ∃ (q : Nat), q ≤ n ∧ i = .int .i64 q ∧ OwnB wr2 w.heap.size o (l ++ List.replicate q u) ∧ Below w.heap.size w wr2) (fun _ i _ => n - (intOf i).toNat)
        case atStart => exact ⟨0, Nat.zero_le _, rfl, by simpa using HO.out, HB.out⟩
        case round =>
          obtain ⟨q, hq, rfl, hown2, hbel2⟩ := hrel
          have HO2 := Lib.hid hown2
          have HB2 := Lib.hid hbel2
          have c1 := HC1.out _ hbel2
          have hql : (l ++ List.replicate q u).length ≤ 1048577 := by rw [List.length_append, List.length_replicate]; omega
          have HRE := Lib.hid (show l ++ List.replicate (q + 1) u = (l ++ List.replicate q u) ++ [u] by rw [List.replicate_succ', List.append_assoc])
          try simp only at c1
          clear hown2 hbel2
          by_cases hlq : q < n
          · have hqn : (q : Int) < (n : Int) := by omega
            go_wp2_with (at_builtin; (refine wpList_app_b rfl _ _ w.heap.size _ (l ++ List.replicate q u) u _ (HZ.out) w _ _ HO2.out HB2.out (Nat.le_refl _) hql rfl rfl _ rfl rfl ?_))
            intro v4 w4 h4 hb4
            have HO4 := Lib.hid h4
            have HB4 := Lib.hid hb4
            clear h4 hb4
            go_wp2
            go_roundw
            case rel => exact ⟨q + 1, by omega, by go_num, by rw [HRE.out, List.append_assoc]; exact HO4.out, HB4.out⟩
            case measure => simp [intOf]; omega
          · obtain rfl : q = n := by omega
            go_wp2
            go_roundw
            case rel => exact ⟨k + 1, by omega, by go_num, by rw [HL.out]; exact HO2.out, HB2.out⟩
            case measure => simp [intOf]; omega
    · have HE := Lib.hid (show (tenL (ps.take k)).map unT = (tenL ps).map unT by rw [List.take_of_length_le (by omega)])
      clear hbel
      go_wp2
      go_ret
      exact ⟨_, rfl, by rw [← HE.out]; exact HO.out, HB.out⟩
end Go.Proofs.YtgcaipjknpcepabDoor
