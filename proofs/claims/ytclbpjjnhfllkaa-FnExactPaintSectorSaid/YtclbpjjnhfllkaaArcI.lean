/- Where a circle's color changes: the program's. -/
import Derived.Test.YtclbpjjnhfllkaaArr
import Derived.Test.YtclbpjjnhfllkaaSecS
import Derived.Test.YtclbpjjnhfllkaaSimS
import Derived.Test.YtclbpjjnhfllkaaAng
namespace Go.Proofs.Ytclbpjjnhfllkaa
open Go.ChangeShapes Go.WideShapes Go.ChangeAt Go.RowKit Pm

theorem changes_any (g : Nat) (L : List ByteArray) (d : Nat) (w : World) (ho : OwnA w g L) (hd : d < 360) :
    Calls Try.prog 69 #[.pointer (some ⟨g, 0, none⟩), .int .i64 d] w (DrewV (.bool (chg (cF L) d)) w) := by
  obtain ⟨q, hq⟩ : ∃ q : Nat, q = (d + 359) % 360 := ⟨_, rfl⟩
  have hq1 : q < 360 := by omega
  have hq2 : (q : Int) < 360 := by omega
  have hd2 : (d : Int) < 360 := by omega
  have HG := Lib.hid (fun n => quiet_eqs (w := w) (n := n) (angle_any ((d : Int) - 1) (w.drewN n)))
  rw [show ang ((d : Int) - 1) = (q : Int) by unfold ang; omega] at HG
  have HV := Lib.hid (show chg (cF L) d = !sB (cF L q) (cF L d) by unfold chg; rw [hq])
  have x0 := ho.cell d hd
  have x1 := ho.cell q hq1
  rw [show L.getD d e0 = cF L d from rfl] at x0
  rw [show L.getD q e0 = cF L q from rfl] at x1
  generalize cF L d = s at *
  generalize cF L q = t at *
  clear ho hq
  cases hb : sB t s
  · have e1 : (s.toList == t.toList) = false := by
      have : (t.toList == s.toList) = false := hb
      rw [beq_eq_false_iff_ne] at this ⊢
      exact fun e => this e.symm
    have e2 : (s.toList != t.toList) = true := by rw [bne, e1]; rfl
    rw [hb] at HV
    clear hb
    go_enter Try.func69, Try.ntmps69
    go_wp2_with (fail)
    go_quiet ((go_at_call 48; exact HG.out _))
    go_wp2_with (fail)
    go_ret
    exact ⟨retB HV.out.symm, _, rfl⟩
  · have e1 : (s.toList == t.toList) = true := by
      have : (t.toList == s.toList) = true := hb
      rw [beq_iff_eq] at this ⊢
      exact this.symm
    have e2 : (s.toList != t.toList) = false := by rw [bne, e1]; rfl
    rw [hb] at HV
    clear hb
    go_enter Try.func69, Try.ntmps69
    go_wp2_with (fail)
    go_quiet ((go_at_call 48; exact HG.out _))
    go_wp2_with (fail)
    go_ret
    exact ⟨retB HV.out.symm, _, rfl⟩
/-! A row of numbers of the call's own. -/
def intR (zs : List Int) : List Value := zs.map (Value.int .i64)
def OwnN (w : World) (B : Nat) (v : Value) (zs : List Int) : Prop := w.ownsRow B 2 1 v zs.length (intR zs)
theorem OwnN.below {w w' : World} {B : Nat} {v : Value} {zs : List Int} (h : OwnN w B v zs) (hb : Below w.heap.size w w') : OwnN w' B v zs := by
  refine ⟨h.1, ?_⟩
  rcases h.2 with h2 | ⟨g, cap, cur, h1, h3, h4, h5⟩
  · exact .inl h2
  · refine .inr ⟨g, cap, cur, h1, h3, ?_, h5⟩
    have hlt : g < w.heap.size := by
      rcases Nat.lt_or_ge g w.heap.size with h' | h'
      · exact h'
      · rw [Array.getElem?_eq_none h'] at h4; cases h4
    rw [hb.block g hlt]; exact h4
theorem OwnN.none (w : World) (B : Nat) : OwnN w B (.slice none 0 0) [] := ⟨rfl, .inl ⟨rfl, rfl⟩⟩
theorem OwnN.form {w : World} {B : Nat} {v : Value} {zs : List Int} (h : OwnN w B v zs) : (v = .slice Option.none 0 0 ∧ zs = []) ∨ ∃ g cap, v = .slice (some ⟨g, 0, Option.none⟩) zs.length cap ∧ B ≤ g := by
  rcases h.2 with ⟨h1, h2⟩ | ⟨g, cap, cur, h1, h3, _⟩
  · exact .inl ⟨h1, List.length_eq_zero_iff.1 (by simpa using h2)⟩
  · exact .inr ⟨g, cap, h1, h3⟩
theorem infoIntN : (Try.prog.info? 2).map (fun i => (i.zero, i.size, i.bytes)) = some (some (.int .i64 0), 1, 8) := by kernel_rfl
theorem num_cells (wr : World) (x : Value) (T : TypeId) : ∀ j u, [x][j]? = some u → (wr.alloc (.cells #[x] T)).cell? ((⟨wr.heap.size, 0, Option.none⟩ : Addr).add j) = some u := by
  intro j u hj
  match j, hj with
  | 0, hj => simp at hj; subst hj; simp [Addr.add]
theorem wpList_app_n {ops : Array Oper} {rest : List Oper} {o : Oper} {a : Act} {Q : Exit → Act → World → Prop} (hgd : o.guard = Option.none) (s x : Operand)
    (B : Nat) (v : Value) (l : List Int) (c : Int) (w0 wr : World) (T : TypeId) (hown : OwnN wr B v l) (hb : Below B w0 wr) (hB : B ≤ w0.heap.size) (hl : l.length ≤ 1048577)
    (ho : o.op = .call { callee := .builtin .append, args := #[s, x], argTypes := #[70, 70] })
    (hs : a.eval s = v) (n : Nat) (hn : wr.heap.size = n) (hx : a.eval x = .slice (some ⟨n, 0, Option.none⟩) 1 1)
    (h : ∀ v' w', OwnN w' B v' (l ++ [c]) → Below B w0 w' → wpList Try.prog ops Q rest (a.put o.dst v') w') :
    wpList Try.prog ops Q (o :: rest) a (wr.alloc (.cells #[.int .i64 c] T)) := by
  subst hn
  obtain ⟨i0, hi, hz0, hz1, hz2⟩ := secinfo_parts infoIntN
  have hsz := hb.size
  have hrow : (wr.alloc (.cells #[.int .i64 c] T)).ownsRow B 2 1 v l.length (intR l) := OwnN.below hown ((Below.refl _ _).alloc (Nat.le_refl _) _)
  refine wpList_append_own _ hgd s x 70 ho B 2 i0 (.int .i64 0) 1 8 Try.underlying70 hi hz0 hz1 hz2 rfl (by decide) v l.length (intR l) hs hrow ⟨wr.heap.size, 0, Option.none⟩ 1 1 [.int .i64 c] hx rfl (num_cells wr _ T) (by intro u hu; simp at hu; subst hu; rfl) (by unfold maxLen; omega) (by omega) (by simp; omega) ?_
  intro v' w' h2 h3 _
  refine h v' w' ?_ ?_
  · unfold OwnN
    have e2 : intR (l ++ [c]) = intR l ++ [.int .i64 c] := by simp [intR]
    rw [e2, List.length_append, List.length_singleton]
    exact h2
  · exact (hb.alloc (Nat.le_trans hB hb.size) _).grown h3 (by simp; omega) (fun k hk => (hrow.lt k hk).1)
def begI (c : Nat → ByteArray) (k : Nat) : List Int := (begs c k).map fun (d : Nat) => (d : Int)
theorem begI_step (c : Nat → ByteArray) (k : Nat) : begI c (k + 1) = if chg c k = true then begI c k ++ [(k : Int)] else begI c k := by
  unfold begI
  rw [begs_step]
  split <;> simp
theorem begI_len (c : Nat → ByteArray) (k : Nat) : (begI c k).length ≤ k := by
  unfold begI begs
  rw [List.length_map]
  exact Nat.le_trans (List.length_filter_le _ _) (by simp)
set_option maxHeartbeats 1000000 in
theorem numbers_any (g : Nat) (L : List ByteArray) (w : World) (ho : OwnA w g L) :
    Calls Try.prog 68 #[.int .i64 360, .func (.func 69) #[.pointer (some ⟨g, 0, none⟩)] #[]] w fun e w' => ∃ v, e = .returned v ∧ OwnN w' w.heap.size v (begI (cF L) 360) ∧ Below w.heap.size w w' := by
  have HO := Lib.hid ho
  have HCH := Lib.hid (fun d w' (h : OwnA w' g L) (hd : d < 360) => changes_any g L d w' h hd)
  have HST := Lib.hid (fun k => begI_step (cF L) k)
  have HLN := Lib.hid (fun k => begI_len (cF L) k)
  obtain ⟨c, hc⟩ : ∃ c, c = cF L := ⟨_, rfl⟩
  rw [← hc] at HCH HST HLN ⊢
  clear ho hc
  go_enter Try.func68, Try.ntmps68
  go_wp2_with (fail)
  go_loopw [5, 8] (fun v i wr => ∃ (k : Nat), k ≤ 360 ∧ i = .int .i64 k ∧ OwnN wr w.heap.size v (begI c k) ∧ Below w.heap.size w wr) (fun _ i _ => 360 - (intOf i).toNat)
  case atStart => exact ⟨0, Nat.zero_le _, rfl, OwnN.none _ _, Below.refl _ _⟩
  case round =>
    obtain ⟨k, hk, rfl, hown, hbel⟩ := hrel
    have HW := Lib.hid hown
    have HB := Lib.hid hbel
    by_cases hlt : k < 360
    · have hkn : (k : Int) < 360 := by omega
      have HCK := Lib.hid (HCH.out k wr (HO.out.below hbel) hlt)
      have hln := HLN.out k
      cases hch : chg c k
      · have HN := Lib.hid (show begI c (k + 1) = begI c k by rw [HST.out, hch]; rfl)
        rw [hch] at HCK
        clear hown hbel hch
        go_wp2_with (go_at_call 69; refine HCK.out.mono ?_; rintro e w2 ⟨rfl, m, rfl⟩)
        go_roundw
        case rel => exact ⟨k + 1, by omega, by go_num, by rw [HN.out]; exact HW.out.below (below_drewN (Below.refl _ _) m), below_drewN HB.out m⟩
        case measure => simp [intOf]; omega
      · have HN := Lib.hid (show begI c (k + 1) = begI c k ++ [(k : Int)] by rw [HST.out, hch]; rfl)
        rw [hch] at HCK
        clear hown hbel hch
        go_wp2_with (first
          | (go_at_call 69; refine HCK.out.mono ?_; rintro e w2 ⟨rfl, m, rfl⟩)
          | (at_builtin; (refine wpList_app_n rfl _ _ w.heap.size _ (begI c k) (k : Int) w (wr.drewN m) _ (HW.out.below (below_drewN (Below.refl _ _) m)) (below_drewN HB.out m) (Nat.le_refl _) (by omega) rfl rfl _ (by simp) rfl ?_)))
        intro v' w4 h4 hb4
        have HO4 := Lib.hid h4
        have HB4 := Lib.hid hb4
        clear h4 hb4
        go_wp2_with (fail)
        go_roundw
        case rel => exact ⟨k + 1, by omega, by go_num, by rw [HN.out]; exact HO4.out, HB4.out⟩
        case measure => simp [intOf]; omega
    · obtain rfl : k = 360 := by omega
      clear hown hbel
      go_wp2_with (fail)
      go_ret
      exact ⟨_, rfl, HW.out, HB.out⟩
end Go.Proofs.Ytclbpjjnhfllkaa
