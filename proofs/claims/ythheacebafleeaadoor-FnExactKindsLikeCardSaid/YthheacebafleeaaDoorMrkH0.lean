/- Numbers that suit a test: the program's loop over the kinds. -/
import Derived.Test.YthheacebafleeaaDoorMrkG
namespace Go.Proofs.YthheacebafleeaaDoor
open Go.ChangeShapes Go.WideShapes Go.ChangeAt Go.RowKit Pm

/-! A row of numbers of the call's own. -/
theorem secinfo_parts {t : TypeId} {z : Value} {s b : Nat} (h : (Tryd.prog.info? t).map (fun i => (i.zero, i.size, i.bytes)) = some (some z, s, b)) :
    ∃ i, Tryd.prog.info? t = some i ∧ i.zero = some z ∧ i.size = s ∧ i.bytes = b := by
  cases hi : Tryd.prog.info? t with
  | none => rw [hi] at h; cases h
  | some i => rw [hi] at h; simp at h; exact ⟨i, rfl, h.1, h.2.1, h.2.2⟩
def intR (zs : List Int) : List Value := zs.map (Value.int .i64)
def OwnN (w : World) (B : Nat) (v : Value) (zs : List Int) : Prop := w.ownsRow B 2 1 v zs.length (intR zs)
theorem OwnN.below {w w' : World} {B : Nat} {v : Value} {zs : List Int} (h : OwnN w B v zs) (hb : Below w.heap.size w w') : OwnN w' B v zs := by
  refine ⟨h.1, ?_⟩
  rcases h.2 with h2 | ⟨g, cap, cur, h1, h3, h4, h5⟩
  · exact .inl h2
  · refine .inr ⟨g, cap, cur, h1, h3, ?_, h5⟩
    have hlt : g < w.heap.size := by
      rcases Nat.lt_or_ge g w.heap.size with h' | h'
      · exact h'
      · rw [Array.getElem?_eq_none h'] at h4; cases h4
    rw [hb.block g hlt]; exact h4
theorem OwnN.none (w : World) (B : Nat) : OwnN w B (.slice none 0 0) [] := ⟨rfl, .inl ⟨rfl, rfl⟩⟩
theorem OwnN.form {w : World} {B : Nat} {v : Value} {zs : List Int} (h : OwnN w B v zs) : (v = .slice Option.none 0 0 ∧ zs = []) ∨ ∃ g cap, v = .slice (some ⟨g, 0, Option.none⟩) zs.length cap ∧ B ≤ g := by
  rcases h.2 with ⟨h1, h2⟩ | ⟨g, cap, cur, h1, h3, _⟩
  · exact .inl ⟨h1, List.length_eq_zero_iff.1 (by simpa using h2)⟩
  · exact .inr ⟨g, cap, h1, h3⟩
theorem infoIntN : (Tryd.prog.info? 2).map (fun i => (i.zero, i.size, i.bytes)) = some (some (.int .i64 0), 1, 8) := by kernel_rfl
theorem num_cells (wr : World) (x : Value) (T : TypeId) : ∀ j u, [x][j]? = some u → (wr.alloc (.cells #[x] T)).cell? ((⟨wr.heap.size, 0, Option.none⟩ : Addr).add j) = some u := by
  intro j u hj
  match j, hj with
  | 0, hj => simp at hj; subst hj; simp [Addr.add]
theorem wpList_app_n {ops : Array Oper} {rest : List Oper} {o : Oper} {a : Act} {Q : Exit → Act → World → Prop} (hgd : o.guard = Option.none) (s x : Operand)
    (B : Nat) (v : Value) (l : List Int) (c : Int) (w0 wr : World) (T : TypeId) (hown : OwnN wr B v l) (hb : Below B w0 wr) (hB : B ≤ w0.heap.size) (hl : l.length ≤ 1048577)
    (ho : o.op = .call { callee := .builtin .append, args := #[s, x], argTypes := #[37, 37] })
    (hs : a.eval s = v) (n : Nat) (hn : wr.heap.size = n) (hx : a.eval x = .slice (some ⟨n, 0, Option.none⟩) 1 1)
    (h : ∀ v' w', OwnN w' B v' (l ++ [c]) → Below B w0 w' → wpList Tryd.prog ops Q rest (a.put o.dst v') w') :
    wpList Tryd.prog ops Q (o :: rest) a (wr.alloc (.cells #[.int .i64 c] T)) := by
  subst hn
  obtain ⟨i0, hi, hz0, hz1, hz2⟩ := secinfo_parts infoIntN
  have hsz := hb.size
  have hrow : (wr.alloc (.cells #[.int .i64 c] T)).ownsRow B 2 1 v l.length (intR l) := OwnN.below hown ((Below.refl _ _).alloc (Nat.le_refl _) _)
  refine wpList_append_own _ hgd s x 37 ho B 2 i0 (.int .i64 0) 1 8 Tryd.underlying37 hi hz0 hz1 hz2 rfl (by decide) v l.length (intR l) hs hrow ⟨wr.heap.size, 0, Option.none⟩ 1 1 [.int .i64 c] hx rfl (num_cells wr _ T) (by intro u hu; simp at hu; subst hu; rfl) (by unfold maxLen; omega) (by omega) (by simp; omega) ?_
  intro v' w' h2 h3 _
  refine h v' w' ?_ ?_
  · unfold OwnN
    have e2 : intR (l ++ [c]) = intR l ++ [.int .i64 c] := by simp [intR]
    rw [e2, List.length_append, List.length_singleton]
    exact h2
  · exact (hb.alloc (Nat.le_trans hB hb.size) _).grown h3 (by simp; omega) (fun k hk => (hrow.lt k hk).1)
def likN (p : Nat → Bool) (k : Nat) : List Int := ((List.range k).filter p).map fun (d : Nat) => (d : Int)
theorem likN_step (p : Nat → Bool) (k : Nat) : likN p (k + 1) = if p k = true then likN p k ++ [(k : Int)] else likN p k := by
  unfold likN
  rw [List.range_succ, List.filter_append]
  cases h : p k <;> simp [h]
theorem likN_len (p : Nat → Bool) (k : Nat) : (likN p k).length ≤ k := by
  unfold likN
  rw [List.length_map]
  exact Nat.le_trans (List.length_filter_le _ _) (by simp)
set_option maxHeartbeats 1000000 in
theorem kinds_any (c s t : ByteArray) (bc bs bt : Nat) (w : World)
    (HCH : ∀ (d : Nat) w', Below w.heap.size w w' → Calls Tryd.prog 48 #[.int .i64 (d : Int), .pointer (some ⟨bc, 0, none⟩), .pointer (some ⟨bs, 0, none⟩), .pointer (some ⟨bt, 0, none⟩)] w' fun e w'' => e = .returned (.bool (likeB (d : Int) c s t)) ∧ Below w'.heap.size w' w'') :
    Calls Tryd.prog 47 #[.int .i64 10, .func (.func 48) #[] #[.pointer (some ⟨bc, 0, none⟩), .pointer (some ⟨bs, 0, none⟩), .pointer (some ⟨bt, 0, none⟩)]] w fun e w' => ∃ v, e = .returned v ∧ OwnN w' w.heap.size v (likN (fun (k : Nat) => likeB k c s t) 10) ∧ Below w.heap.size w w' := by
  obtain ⟨p, hp⟩ : ∃ p : Nat → Bool, p = fun (k : Nat) => likeB k c s t := ⟨_, rfl⟩
  have HPE : ∀ d : Nat, likeB (d : Int) c s t = p d := fun d => by rw [hp]
  simp only [HPE] at HCH
  replace HCH := Lib.hid HCH
  rw [← hp]
  have HST := Lib.hid (fun k => likN_step p k)
  have HLN := Lib.hid (fun k => likN_len p k)
  clear HPE hp
  go_enter Tryd.func47, Tryd.ntmps47
  go_wp2_with (fail)
  go_loopw [5, 8] (fun v i wr => ∃ (k : Nat), k ≤ 10 ∧ i = .int .i64 k ∧ OwnN wr w.heap.size v (likN p k) ∧ Below w.heap.size w wr) (fun _ i _ => 10 - (intOf i).toNat)
  case atStart => exact ⟨0, Nat.zero_le _, rfl, OwnN.none _ _, Below.refl _ _⟩
  case round =>
    obtain ⟨k, hk, rfl, hown, hbel⟩ := hrel
    have HW := Lib.hid hown
    have HB := Lib.hid hbel
    by_cases hlt : k < 10
    · have hkn : (k : Int) < 10 := by omega
      have HCK := Lib.hid (HCH.out k wr hbel)
      have hln := HLN.out k
      cases hch : p k
      · have HN := Lib.hid (show likN p (k + 1) = likN p k by rw [HST.out, hch]; rfl)
        rw [hch] at HCK
        clear hown hbel hch
        go_wp2_with (go_at_call 48; refine HCK.out.mono ?_; rintro e w2 ⟨rfl, hb2⟩; have HO2 := Lib.hid (HW.out.below hb2); have HB2 := Lib.hid (Below.next HB.out hb2); clear hb2)
        go_roundw
        case rel => exact ⟨k + 1, by omega, by go_num, by rw [HN.out]; exact HO2.out, HB2.out⟩
        case measure => simp [intOf]; omega
      · have HN := Lib.hid (show likN p (k + 1) = likN p k ++ [(k : Int)] by rw [HST.out, hch]; rfl)
        rw [hch] at HCK
        clear hown hbel hch
        go_wp2_with (first
          | (go_at_call 48; refine HCK.out.mono ?_; rintro e w2 ⟨rfl, hb2⟩; have HO2 := Lib.hid (HW.out.below hb2); have HB2 := Lib.hid (Below.next HB.out hb2); clear hb2)
          | (at_builtin; (refine wpList_app_n rfl _ _ w.heap.size _ (likN p k) (k : Int) w w2 _ HO2.out HB2.out (Nat.le_refl _) (by omega) rfl rfl _ (by simp) rfl ?_)))
        intro v' w4 h4 hb4
        have HO4 := Lib.hid h4
        have HB4 := Lib.hid hb4
        clear h4 hb4
        go_wp2_with (fail)
        go_roundw
        case rel => exact ⟨k + 1, by omega, by go_num, by rw [HN.out]; exact HO4.out, HB4.out⟩
        case measure => simp [intOf]; omega
    · obtain rfl : k = 10 := by omega
      clear hown hbel
      go_wp2_with (fail)
      go_ret
      exact ⟨_, rfl, HW.out, HB.out⟩
end Go.Proofs.YthheacebafleeaaDoor
