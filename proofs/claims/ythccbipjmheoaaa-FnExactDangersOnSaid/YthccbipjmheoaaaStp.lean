/- Rows of strings: appending, marks, marks read again, comparison. -/
import Derived.Test.YthccbipjmheoaaaSlices
import Derived.Test.YthccbipjmheoaaaDecM
import Derived.Test.YthccbipjmheoaaaClx
import Derived.Deep.RegionWith
import Derived.Deep.QuietTactic
import Derived.BigQuiet
namespace Go.Proofs.Ythccbipjmheoaaa
open Go.ChangeShapes Go.WideShapes Go.ChangeAt Go.RowKit Pm

theorem stinfo_parts {t : TypeId} {z : Value} {s b : Nat} (h : (Try.prog.info? t).map (fun i => (i.zero, i.size, i.bytes)) = some (some z, s, b)) :
    ∃ i, Try.prog.info? t = some i ∧ i.zero = some z ∧ i.size = s ∧ i.bytes = b := by
  cases hi : Try.prog.info? t with
  | none => rw [hi] at h; cases h
  | some i => rw [hi] at h; simp at h; exact ⟨i, rfl, h.1, h.2.1, h.2.2⟩
theorem infoStr : (Try.prog.info? 9).map (fun i => (i.zero, i.size, i.bytes)) = some (some (.string ⟨#[]⟩), 1, 16) := by kernel_rfl
theorem ret_str {s u : ByteArray} (h : s = u) : Ending.returned (.string s) = .returned (.string u) := by rw [h]
theorem size_list (s : ByteArray) : s.data.toList.length = s.size := by simp
theorem app_cells (wr : World) (x : Value) (T : TypeId) : ∀ j u, [x][j]? = some u → (wr.alloc (.cells #[x] T)).cell? ((⟨wr.heap.size, 0, none⟩ : Addr).add j) = some u := by
  intro j u hj
  match j, hj with
  | 0, hj => simp at hj; subst hj; simp [Addr.add]
theorem own_none (w : World) (B : Nat) (E : TypeId) : w.ownsRow B E 1 (.slice none 0 0) 0 [] := ⟨rfl, .inl ⟨rfl, rfl⟩⟩
/-- An owned row's value. -/
theorem own_form {w : World} {B : Nat} {E : TypeId} {v : Value} {n : Nat} {xs : List Value} (h : w.ownsRow B E 1 v n xs) :
    (v = .slice none 0 0 ∧ n = 0) ∨ ∃ g cap, v = .slice (some ⟨g, 0, none⟩) n cap ∧ B ≤ g := by
  rcases h.2 with ⟨h1, h2⟩ | ⟨g, cap, cur, h1, h3, _⟩
  · exact .inl ⟨h1, by simpa using h2⟩
  · exact .inr ⟨g, cap, h1, h3⟩
def strO (ps : List ByteArray) : List Value := ps.map Value.string
/-- An owned row of strings. -/
def OwnSO (w : World) (B : Nat) (v : Value) (l : List ByteArray) : Prop := w.ownsRow B 9 1 v l.length (strO l)
theorem OwnSO.below {w w' : World} {B : Nat} {v : Value} {l : List ByteArray} (h : OwnSO w B v l) (hb : Below w.heap.size w w') : OwnSO w' B v l := own_below h hb
theorem OwnSO.none (w : World) (B : Nat) : OwnSO w B (.slice none 0 0) [] := ⟨rfl, .inl ⟨rfl, rfl⟩⟩
theorem str_cellsO (wr : World) (x : Value) (T : TypeId) : ∀ j u, [x][j]? = some u → (wr.alloc (.cells #[x] T)).cell? ((⟨wr.heap.size, 0, Option.none⟩ : Addr).add j) = some u := by
  intro j u hj
  match j, hj with
  | 0, hj => simp at hj; subst hj; simp [Addr.add]
theorem wpList_app_so {ops : Array Oper} {rest : List Oper} {o : Oper} {a : Act} {Q : Exit → Act → World → Prop} (hgd : o.guard = Option.none) (s x : Operand)
    (B : Nat) (v : Value) (l : List ByteArray) (c : ByteArray) (w0 wr : World) (T : TypeId) (hown : OwnSO wr B v l) (hb : Below B w0 wr) (hB : B ≤ w0.heap.size) (hl : l.length ≤ 1048577)
    (ho : o.op = .call { callee := .builtin .append, args := #[s, x], argTypes := #[58, 58] })
    (hs : a.eval s = v) (n : Nat) (hn : wr.heap.size = n) (hx : a.eval x = .slice (some ⟨n, 0, Option.none⟩) 1 1)
    (h : ∀ v' w', OwnSO w' B v' (l ++ [c]) → Below B w0 w' → wpList Try.prog ops Q rest (a.put o.dst v') w') :
    wpList Try.prog ops Q (o :: rest) a (wr.alloc (.cells #[.string c] T)) := by
  subst hn
  obtain ⟨i0, hi, hz0, hz1, hz2⟩ := stinfo_parts infoStr
  have hsz := hb.size
  have hrow : (wr.alloc (.cells #[.string c] T)).ownsRow B 9 1 v l.length (strO l) := OwnSO.below hown ((Below.refl _ _).alloc (Nat.le_refl _) _)
  refine wpList_append_own _ hgd s x 58 ho B 9 i0 (.string ⟨#[]⟩) 1 16 Try.underlying58 hi hz0 hz1 hz2 rfl (by decide) v l.length (strO l) hs hrow ⟨wr.heap.size, 0, Option.none⟩ 1 1 [.string c] hx rfl (str_cellsO wr _ T) (by intro u hu; simp at hu; subst hu; rfl) (by unfold maxLen; omega) (by omega) (by simp; omega) ?_
  intro v' w' h2 h3 _
  refine h v' w' ?_ ?_
  · unfold OwnSO
    have e2 : strO (l ++ [c]) = strO l ++ [.string c] := by simp [strO]
    rw [e2, List.length_append, List.length_singleton]
    exact h2
  · exact (hb.alloc (Nat.le_trans hB hb.size) _).grown h3 (by simp; omega) (fun k hk => (hrow.lt k hk).1)
theorem OwnSO.mono {w : World} {B B' : Nat} {v : Value} {l : List ByteArray} (h : OwnSO w B v l) (hB : B' ≤ B) : OwnSO w B' v l := by
  refine ⟨h.1, ?_⟩
  rcases h.2 with h2 | ⟨g, cap, cur, h1, h3, h4⟩
  · exact .inl h2
  · exact .inr ⟨g, cap, cur, h1, Nat.le_trans hB h3, h4⟩
theorem OwnSO.drew {w : World} {B : Nat} {v : Value} {l : List ByteArray} (h : OwnSO w B v l) : OwnSO w.drew B v l := h.below (Below.refl _ _).drew
abbrev strV := strO
theorem strV_len (ps : List ByteArray) : (strV ps).length = ps.length := by simp [strO]
/-- The k-th text. -/
def mtext (k : Nat) : ByteArray := ⟨(109 :: (low k).reverse).toArray⟩
theorem one_cell (w : World) (c : UInt8) (T : TypeId) : ∀ j (hj : j < [c].length), (w.alloc (.cells #[Value.int .u8 (c.toNat : Int)] T)).cell? (({ block := w.heap.size, off := 0, spot := none } : Addr).add j) = some (.int .u8 ([c][j].toNat : Int)) := by
  intro j hj
  obtain rfl : j = 0 := by simp at hj; omega
  exact app_cells w (.int .u8 (c.toNat : Int)) T 0 _ rfl
set_option maxRecDepth 100000 in
theorem marktext_any (k : Nat) (w : World) (h0 : 1 ≤ k) (h1 : k ≤ 4194304) :
    Calls Try.prog 65 #[.int .i64 k] w fun e w' => e = .returned (.string (mtext k)) ∧ Below w.heap.size w w' := by
  have HL := Lib.hid (low_len 64 k (by omega))
  go_enter Try.func65, Try.ntmps65
  go_wp2_with (fail)
  go_loopw [0, 3] (fun q o wr => ∃ (z : Nat) (u : ByteArray), q = .int .i64 z ∧ o = .string u ∧ z ≤ k ∧ (low z).reverse ++ u.data.toList = (low k).reverse ∧ Below w.heap.size w wr) (fun q _ _ => (intOf q).toNat)
  case atStart => exact ⟨k, ⟨#[]⟩, rfl, rfl, Nat.le_refl _, by simp, Below.refl _ _⟩
  case round =>
    obtain ⟨z, u, rfl, rfl, hz, hu, hbel⟩ := hrel
    have hsz : u.size ≤ 64 := by
      have h2 := congrArg List.length hu
      have h3 := HL.out
      rw [List.length_append, List.length_reverse, List.length_reverse, size_list] at h2
      omega
    have HU := Lib.hid hu
    have HB := Lib.hid hbel
    clear hu hbel
    by_cases hz0 : z = 0
    · subst hz0
      have hfin : (⟨#[109]⟩ : ByteArray) ++ u = mtext k := by
        refine WideShapes.bytes_inj ?_
        have h2 := HU.out
        rw [low_zero, List.reverse_nil, List.nil_append] at h2
        rw [ByteArray.data_append, Array.toList_append, h2]
        rfl
      have HF := Lib.hid hfin
      clear hfin
      go_wp2
      go_ret
      exact ⟨ret_str HF.out, HB.out⟩
    · obtain ⟨c, hc⟩ : ∃ c : UInt8, c = UInt8.ofNat (48 + z % 10) := ⟨_, rfl⟩
      have hcv := run_convert_bytes_back (P := Try.prog) (wr.alloc (.cells #[Value.int .u8 (c.toNat : Int)] 5)) 122 9 5 ⟨wr.heap.size, 0, none⟩ 1 [c] Try.underlying122 Try.underlying5 Try.underlying9 (one_cell wr c _)
      have hcd : (c.toNat : Int) = 48 + (z : Int) % 10 := by rw [hc, digit_val]; omega
      have HST := Lib.hid (show (low (z / 10)).reverse ++ ((⟨[c].toArray⟩ : ByteArray) ++ u).data.toList = (low k).reverse by
        rw [← HU.out, low_pos hz0, List.reverse_cons, ← hc, ByteArray.data_append, Array.toList_append]
        simp)
      rw [hcd, show [c].length = 1 from rfl] at hcv
      clear hcd hc
      go_wp2
      go_roundw
      case rel => exact ⟨z / 10, _, by go_num, rfl, by omega, HST.out, HB.out.alloc HB.out.size _⟩
      case measure => simp [intOf]; omega
/-- The texts, in order. -/
def marksT (k n : Nat) : List ByteArray := (List.range n).map fun (j : Nat) => mtext (k + j)
theorem marksT_len (k n : Nat) : (strV (marksT k n)).length = n := by simp [strO, marksT]
theorem marksT_at (k n j : Nat) (h : j < n) : (strV (marksT k n))[j]? = some (.string (mtext (k + j))) := by simp [strO, marksT, h]
theorem markt_any (v : Value) (n : Nat) (xs : List Value) (B : Nat) (w : World) (hB0 : B ≤ w.heap.size) (hn : n ≤ 2097152) (ho : w.ownsRow B 9 1 v n xs) :
    Calls Try.prog 35 #[v, .int .i64 1] w (fun e w' => e = .returned (.int .i64 (1 + n)) ∧ w'.ownsRow B 9 1 v n (strV (marksT 1 n)) ∧ Below B w w') := by
  rcases own_form ho with ⟨rfl, rfl⟩ | ⟨g, cap, rfl, hB⟩
  · have HO := Lib.hid ho
    clear ho
    go_enter Try.func35, Try.ntmps35
    go_wp2
    go_rounds 1
    go_ret
    exact ⟨by simp, own_none _ _ _, Below.refl _ _⟩
  · have hxl : xs.length = n := by have := ho.1; omega
    have HO := Lib.hid ho
    clear ho
    go_enter Try.func35, Try.ntmps35
    go_wp2
    go_loopw [1, 5] (fun q i wr => ∃ (j : Nat) (ys : List Value), j ≤ n ∧ i = .int .i64 j ∧ q = .int .i64 ((1 + j : Nat) : Int) ∧ Upto ys j (strV (marksT 1 n)) ∧ wr.ownsRow B 9 1 (.slice (some ⟨g, 0, none⟩) n cap) n ys ∧ Below B w wr) (fun _ i _ => n - (intOf i).toNat)
    case atStart => exact ⟨0, xs, Nat.zero_le _, rfl, rfl, ⟨by rw [marksT_len, hxl], fun j hj => by omega⟩, HO.out, Below.refl _ _⟩
    case round =>
      obtain ⟨j, ys, hj, rfl, rfl, hup, hown, hbel⟩ := hrel
      have HU := Lib.hid hup
      have HOW := Lib.hid hown
      have HBR := Lib.hid hbel
      clear hup hown hbel
      by_cases hlt : j < n
      · have HM := Lib.hid (fun w => marktext_any (1 + j) w (by omega) (by omega))
        have HUP := Lib.hid (HU.out.step (u := .string (mtext (1 + j))) (by rw [marksT_len]; exact hlt) (marksT_at 1 n j hlt))
        obtain ⟨u, hu⟩ : ∃ u, u = mtext (1 + j) := ⟨_, rfl⟩
        rw [← hu] at HM HUP
        clear hu
        go_wp2_with (go_at_call 65; refine (HM.out _).mono ?_; rintro e w2 ⟨rfl, hb2⟩; refine Hid.out ?_)
        refine Lib.hid ?_
        have hown := own_below HOW.out hb2
        have hbel := HBR.out.trans (hb2.mono (Nat.le_trans hB0 HBR.out.size))
        have hold := hown.cellAt j (by omega)
        rw [List.getElem?_eq_getElem (by have := HU.out.1; rw [marksT_len] at this; omega)] at hold
        have hfz := hown.frozenAt j
        have HST := Lib.hid (hown.stored j (.string u)).1
        have HB2 := Lib.hid (hbel.setCell (p := ⟨g, j, none⟩) hB (.string u))
        clear hown hbel hb2
        go_wp2
        go_roundw
        case rel => exact ⟨j + 1, _, by omega, by go_num, by go_num, HUP.out, HST.out, HB2.out⟩
        case measure => simp [intOf]; omega
      · obtain rfl : j = n := by omega
        have e : ys = strV (marksT 1 j) := Upto.all (by rw [marksT_len]; exact HU.out)
        have HO2 := Lib.hid (e ▸ HOW.out)
        clear e HOW
        go_wp2
        go_ret
        exact ⟨by go_num, HO2.out, HBR.out⟩
theorem marktext_at (j : Nat) (w : World) (h1 : j < 2097152) :
    Calls Try.prog 65 #[.int .i64 (1 + (j : Int))] w fun e w' => e = .returned (.string (mtext (1 + j))) ∧ Below w.heap.size w w' :=
  marktext_any (1 + j) w (by omega) (by omega)
theorem drew_keep {w w2 : World} {a : Addr} {v : Value} (h : w.cell? a = some v) (hb : Below w.drew.heap.size w.drew w2) : w2.cell? a = some v :=
  cell_below (w := w.drew) h hb
theorem heldt_any (v : Value) (n : Nat) (B : Nat) (w : World) (hn : n ≤ 2097152) (ho : w.ownsRow B 9 1 v n (strV (marksT 1 n))) :
    Calls Try.prog 36 #[v, .int .i64 1] w (fun e w' => e = .returned (.int .i64 (1 + n)) ∧ Below w.heap.size w w') := by
  rcases own_form ho with ⟨rfl, rfl⟩ | ⟨g, cap, rfl, hB⟩
  · clear ho
    go_enter Try.func36, Try.ntmps36
    go_wp2
    go_rounds 1
    go_ret
    exact ⟨by simp, Below.refl _ _⟩
  · have HO := Lib.hid ho
    clear ho
    go_enter Try.func36, Try.ntmps36
    go_wp2
    go_loopw [1, 5] (fun q i wr => ∃ (j : Nat), j ≤ n ∧ i = .int .i64 j ∧ q = .int .i64 ((1 + j : Nat) : Int) ∧ Below w.heap.size w wr) (fun _ i _ => n - (intOf i).toNat)
    case atStart => exact ⟨0, Nat.zero_le _, rfl, rfl, Below.refl _ _⟩
    case round =>
      obtain ⟨j, hj, rfl, rfl, hbel⟩ := hrel
      have HBR := Lib.hid hbel
      clear hbel
      by_cases hlt : j < n
      · have HM := Lib.hid (fun w => marktext_at j w (by omega))
        have hcell := (own_below HO.out HBR.out).cellAt j (by omega)
        rw [marksT_at 1 n j hlt] at hcell
        obtain ⟨u, hu⟩ : ∃ u, u = mtext (1 + j) := ⟨_, rfl⟩
        rw [← hu] at HM hcell
        clear hu
        go_wp2_with (fail)
        go_region_with ((go_at_call 65; refine (HM.out _).mono ?_; rintro e w2 ⟨rfl, hb2⟩; have hcell2 := drew_keep hcell hb2))
        all_goals
          have HB2 := Lib.hid ((Below.drew HBR.out).trans (Below.mono hb2 HBR.out.size))
          clear hb2
          go_wp2
          go_roundw
          case rel => exact ⟨j + 1, by omega, by go_num, by go_num, HB2.out⟩
          case measure => simp [intOf]; omega
      · obtain rfl : j = n := by omega
        go_wp2
        go_ret
        exact ⟨by go_num, HBR.out⟩
/-- A comparison of two rows that read as the same strings. -/
theorem eqstrs_same (v1 v2 : Value) (B1 B2 n1 n2 : Nat) (ps : List ByteArray) (w : World) (hm : ps.length ≤ 2097152) (h1 : w.ownsRow B1 9 1 v1 n1 (strV ps)) (h2 : w.ownsRow B2 9 1 v2 n2 (strV ps)) :
    Calls Try.prog 34 #[v1, v2] w fun e w' => e = .returned (.bool true) ∧ ∃ n, w' = w.drewN n := by
  have e1 : n1 = ps.length := by have := h1.1; rw [strV_len] at this; omega
  have e2 : n2 = ps.length := by have := h2.1; rw [strV_len] at this; omega
  subst e1; subst e2
  by_cases h0 : ps.length = 0
  · have f : ∀ {v B} (_ : w.ownsRow B 9 1 v ps.length (strV ps)), ∃ a c, v = .slice a 0 c := by
      intro v B h
      rcases own_form h with ⟨rfl, _⟩ | ⟨g, c, rfl, _⟩
      · exact ⟨_, _, rfl⟩
      · exact ⟨_, _, by rw [h0]⟩
    obtain ⟨a1, c1, rfl⟩ := f h1
    obtain ⟨a2, c2, rfl⟩ := f h2
    clear h1 h2 f
    go_enter Try.func34, Try.ntmps34
    go_wp2
    go_rounds 1
    go_ret
    exact ⟨rfl, 0, rfl⟩
  · obtain ⟨g1, c1, rfl, _, _⟩ := h1.form (by omega)
    obtain ⟨g2, c2, rfl, _, _⟩ := h2.form (by omega)
    have H1 := Lib.hid h1
    have H2 := Lib.hid h2
    clear h0 h1 h2
    go_enter Try.func34, Try.ntmps34
    go_wp2
    go_loopw [5] (fun i wr => ∃ (k m : Nat), k ≤ ps.length ∧ i = .int .i64 k ∧ wr = w.drewN m) (fun i _ => ps.length - (intOf i).toNat)
    case atStart => exact ⟨0, 0, Nat.zero_le _, rfl, rfl⟩
    case round =>
      obtain ⟨k, m, hk, rfl, rfl⟩ := hrel
      by_cases hlt : k < ps.length
      · have c1' := H1.out.cellAt k (by omega)
        have c2' := H2.out.cellAt k (by omega)
        rw [show (strV ps)[k]? = some (.string ps[k]) by simp [strO, hlt]] at c1' c2'
        generalize hz : ps[k] = z at c1' c2'
        clear hz
        have hki : (k : Int) < (ps.length : Int) := by omega
        go_wp2_with (fail)
        go_quiet (fail)
        go_wp2
        go_roundw
        case rel => exact ⟨k + 1, _, by omega, by go_num, rfl⟩
        case measure => simp [intOf]; omega
      · go_wp2
        go_ret
        exact ⟨rfl, _, rfl⟩
end Go.Proofs.Ythccbipjmheoaaa
