/- The program's reading of a number, and the law. -/
import Derived.Test.YtlelcecbpahliaaGreatDoorNumS
import Derived.Test.YtlelcecbpahliaaGreatDoorLaid
import Derived.Lib.Hide
namespace Go.Proofs.YtlelcecbpahliaaGreatDoor
open Go.ChangeShapes Go.WideShapes Go.ChangeAt Go.RowKit Pm

/-- The two errors of the library's: the variables hold pointers. -/
def rangeName : String := "strconv.ErrRange"
def synName : String := "strconv.ErrSyntax"
def ErrsAt (w : World) : Prop := (∃ tp p, w.var? Tryz.prog rangeName = some #[.iface tp p]) ∧ ∃ tp p, w.var? Tryz.prog synName = some #[.iface tp p]

theorem var_below {P : Program} {w w' : World} {n : String} {cs : Array Value} (h : w.var? P n = some cs) (hb : Below w.heap.size w w') : w'.var? P n = some cs := by
  unfold World.var? at h ⊢
  cases hg : P.globalNamed n with
  | none => simp [hg] at h
  | some g =>
    simp only [hg, Option.bind_some] at h ⊢
    have hlt : g < w.heap.size := by
      rcases Nat.lt_or_ge g w.heap.size with h' | h'
      · exact h'
      · rw [Array.getElem?_eq_none h'] at h; simp at h
    rw [hb.block g hlt]
    exact h

theorem ErrsAt.below {w w' : World} (h : ErrsAt w) (hb : Below w.heap.size w w') : ErrsAt w' := by
  obtain ⟨⟨tp, p, h1⟩, tq, q, h2⟩ := h
  exact ⟨⟨tp, p, var_below h1 hb⟩, tq, q, var_below h2 hb⟩

/-- How the library's reading ends. -/
def ParseRet (s : ByteArray) (w : World) (e : Ending) (w' : World) : Prop :=
  (∃ v, Lib.parseIntB 64 s.data.toList = .ok v ∧ e = .returned (.tuple #[.int .i64 v, .nilIface]) ∧ Below w.heap.size w w') ∨
  ((∀ v, Lib.parseIntB 64 s.data.toList ≠ .ok v) ∧ ∃ n t a, e = .returned (.tuple #[.int .i64 n, .iface t (.pointer (some a))]) ∧ Below w.heap.size w w')

theorem parse_any (s : ByteArray) (w : World) (hs : s.size ≤ 281474976710656) (hE : ErrsAt w) :
    Calls Tryz.prog 68 #[.string s, .int .i64 10, .int .i64 64] w (ParseRet s w) := by
  obtain ⟨⟨tp, p, h1⟩, tq, q, h2⟩ := hE
  rcases h : Lib.parseIntB 64 s.data.toList with v | _ | _
  · refine (Any.strconv_ParseInt_10_at64_ok Tryz.laysC174 s (by omega) v h w).mono fun e w' ⟨he, hw⟩ => .inl ⟨v, h, he, ?_⟩
    rcases hw with rfl | ⟨t, rfl⟩
    · exact Below.refl _ _
    · exact Lib.bytesWorld_below _ _ _
  · refine (Any.strconv_ParseInt_10_at64_syntax_var Tryz.laysC174 s hs h tq q w h2).mono fun e w' ⟨N, he, _, _, hb⟩ => .inr ⟨fun v hv => (by rw [h] at hv; cases hv), _, _, _, he, hb⟩
  · refine (Any.strconv_ParseInt_10_at64_range_var Tryz.laysC174 s hs h tp p w h1).mono fun e w' ⟨N, he, _, _, hb⟩ => .inr ⟨fun v hv => (by rw [h] at hv; cases hv), _, _, _, he, hb⟩

theorem parse_ok (s : ByteArray) (v : Int) (w : World) (hs : s.size ≤ 281474976710656) (h : Lib.parseIntB 64 s.data.toList = .ok v) :
    Calls Tryz.prog 68 #[.string s, .int .i64 10, .int .i64 64] w fun e w' => e = .returned (.tuple #[.int .i64 v, .nilIface]) ∧ Below w.heap.size w w' := by
  refine (Any.strconv_ParseInt_10_at64_ok Tryz.laysC174 s (by omega) v h w).mono fun e w' ⟨he, hw⟩ => ⟨he, ?_⟩
  rcases hw with rfl | ⟨t, rfl⟩
  · exact Below.refl _ _
  · exact Lib.bytesWorld_below _ _ _

def NoParse (w : World) (e : Ending) (w' : World) : Prop := ∃ n t a, e = .returned (.tuple #[.int .i64 n, .iface t (.pointer (some a))]) ∧ Below w.heap.size w w'
theorem parse_no (s : ByteArray) (w : World) (hs : s.size ≤ 281474976710656) (hE : ErrsAt w) (h : ∀ v, Lib.parseIntB 64 s.data.toList ≠ .ok v) :
    Calls Tryz.prog 68 #[.string s, .int .i64 10, .int .i64 64] w (NoParse w) :=
  (parse_any s w hs hE).mono fun e w' hr => by
    rcases hr with ⟨v, hv, _⟩ | ⟨_, hr⟩
    · exact absurd hv (h v)
    · exact hr

theorem readdec_yes (s : ByteArray) (w : World) (hs : s.size ≤ 281474976710656) (hp : PowAt w) (hc : canB s.data.toList = true) :
    Calls Tryz.prog 34 #[.string s] w fun e w' => e = .returned (.tuple #[.int .i64 (numR s.data.toList), .bool (canB s.data.toList)]) ∧ Below w.heap.size w w' := by
  have HV := Lib.hid (numR_yes hc)
  have HC := Lib.hid hc
  have hbd := numV_bd hc
  have hin : inB (-999999999999999999) 999999999999999999 [numV s.data.toList] = true := by simp [inB, hbd]
  have HP := Lib.hid (parse_ok s _ w hs (parse_can hc))
  have hit := itoa_numV hc
  obtain ⟨v, hv⟩ : ∃ v, v = numV s.data.toList := ⟨_, rfl⟩
  rw [← hv] at hbd hin HP HV hit
  have HD := Lib.hid (fun w hp => decimal_any v w (by omega) (by omega) hp)
  rw [hit, show (⟨s.data.toList.toArray⟩ : ByteArray) = s from rfl] at HD
  have HPW := Lib.hid hp
  clear hv hit hc hp hbd
  go_enter Tryz.func34, Tryz.ntmps34
  go_wp2_with (go_at_call 68; refine HP.out.mono ?_; rintro e w1 ⟨rfl, hb1⟩; refine Hid.out ?_)
  refine Lib.hid ?_
  have H1 := ints_one w1 .i64 v 2
  go_wp2_with (go_at_call 47; refine (within_any _ _ _ _ _ H1).mono ?_; rintro e w2 ⟨rfl, hw2⟩; refine Hid.out ?_)
  refine Lib.hid ?_
  have hb2 : Below w.heap.size w w2 := by rw [← hw2]; exact hb1.alloc hb1.size _
  clear hw2 H1 hb1
  go_wp2_with (go_at_call 50; refine (HD.out _ (PowAt.below HPW.out hb2)).mono ?_; rintro e w3 ⟨rfl, hb3⟩)
  go_ret2
  exact ⟨ret2 HV.out.symm HC.out.symm, hb2.trans (hb3.mono hb2.size)⟩

theorem readdec_err (s : ByteArray) (w : World) (hs : s.size ≤ 281474976710656) (hE : ErrsAt w) (hc : canB s.data.toList = false) (h : ∀ v, Lib.parseIntB 64 s.data.toList ≠ .ok v) :
    Calls Tryz.prog 34 #[.string s] w fun e w' => e = .returned (.tuple #[.int .i64 (numR s.data.toList), .bool (canB s.data.toList)]) ∧ Below w.heap.size w w' := by
  have HV := Lib.hid (numR_no hc)
  have HC := Lib.hid hc
  have HP := Lib.hid (parse_no s w hs hE h)
  clear hs hE hc h
  go_enter Tryz.func34, Tryz.ntmps34
  go_wp2_with (go_at_call 68; refine HP.out.mono ?_; rintro e w1 ⟨n, t, a, rfl, hb1⟩)
  go_ret2
  exact ⟨ret2 HV.out.symm HC.out.symm, hb1⟩

theorem readdec_far (s : ByteArray) (v : Int) (w : World) (hs : s.size ≤ 281474976710656) (hc : canB s.data.toList = false) (h : Lib.parseIntB 64 s.data.toList = .ok v) (hin : inB (-999999999999999999) 999999999999999999 [v] = false) :
    Calls Tryz.prog 34 #[.string s] w fun e w' => e = .returned (.tuple #[.int .i64 (numR s.data.toList), .bool (canB s.data.toList)]) ∧ Below w.heap.size w w' := by
  have HV := Lib.hid (numR_no hc)
  have HC := Lib.hid hc
  have HP := Lib.hid (parse_ok s v w hs h)
  clear hs hc h
  go_enter Tryz.func34, Tryz.ntmps34
  go_wp2_with (go_at_call 68; refine HP.out.mono ?_; rintro e w1 ⟨rfl, hb1⟩; refine Hid.out ?_)
  refine Lib.hid ?_
  have H1 := ints_one w1 .i64 v 2
  go_wp2_with (go_at_call 47; refine (within_any _ _ _ _ _ H1).mono ?_; rintro e w2 ⟨rfl, hw2⟩)
  go_ret2
  exact ⟨ret2 HV.out.symm HC.out.symm, by rw [← hw2]; exact hb1.alloc hb1.size _⟩

theorem readdec_other (s : ByteArray) (v : Int) (w : World) (hs : s.size ≤ 281474976710656) (hp : PowAt w) (hc : canB s.data.toList = false) (h : Lib.parseIntB 64 s.data.toList = .ok v) (hin : inB (-999999999999999999) 999999999999999999 [v] = true) :
    Calls Tryz.prog 34 #[.string s] w fun e w' => e = .returned (.tuple #[.int .i64 (numR s.data.toList), .bool (canB s.data.toList)]) ∧ Below w.heap.size w w' := by
  have HV := Lib.hid (numR_no hc)
  have HC := Lib.hid hc
  have HP := Lib.hid (parse_ok s v w hs h)
  have hbd : -999999999999999999 ≤ v ∧ v ≤ 999999999999999999 := by simpa [inB] using hin
  have hne : (⟨(Lib.itoa v).toArray⟩ : ByteArray) ≠ s := by
    intro e
    have e2 : s.data.toList = Lib.itoa v := by rw [← e]
    have := (canB_itoa hbd.1 hbd.2).1
    rw [← e2, hc] at this
    cases this
  have HD := Lib.hid (fun w hp => decimal_any v w (by omega) (by omega) hp)
  obtain ⟨u, hu⟩ : ∃ u : ByteArray, u = ⟨(Lib.itoa v).toArray⟩ := ⟨_, rfl⟩
  rw [← hu] at hne HD
  have n2 : (u.toList == s.toList) = false := by
    rw [beq_eq_false_iff_ne, ByteArray.toList_eq, ByteArray.toList_eq]
    exact fun e => hne (WideShapes.bytes_inj e)
  have HPW := Lib.hid hp
  clear hs hc h hp hbd hu
  go_enter Tryz.func34, Tryz.ntmps34
  go_wp2_with (go_at_call 68; refine HP.out.mono ?_; rintro e w1 ⟨rfl, hb1⟩; refine Hid.out ?_)
  refine Lib.hid ?_
  have H1 := ints_one w1 .i64 v 2
  go_wp2_with (go_at_call 47; refine (within_any _ _ _ _ _ H1).mono ?_; rintro e w2 ⟨rfl, hw2⟩; refine Hid.out ?_)
  refine Lib.hid ?_
  have hb2 : Below w.heap.size w w2 := by rw [← hw2]; exact hb1.alloc hb1.size _
  clear hw2 H1 hb1
  go_wp2_with (go_at_call 50; refine (HD.out _ (PowAt.below HPW.out hb2)).mono ?_; rintro e w3 ⟨rfl, hb3⟩)
  go_ret2
  exact ⟨ret2 HV.out.symm HC.out.symm, hb2.trans (hb3.mono hb2.size)⟩

theorem readdec_any (s : ByteArray) (w : World) (hs : s.size ≤ 281474976710656) (hp : PowAt w) (hE : ErrsAt w) :
    Calls Tryz.prog 34 #[.string s] w fun e w' => e = .returned (.tuple #[.int .i64 (numR s.data.toList), .bool (canB s.data.toList)]) ∧ Below w.heap.size w w' := by
  cases hc : canB s.data.toList
  · have := readdec_err s w hs hE hc
    rcases h : Lib.parseIntB 64 s.data.toList with v | _ | _
    · cases hin : inB (-999999999999999999) 999999999999999999 [v]
      · rw [← hc]; exact readdec_far s v w hs hc h hin
      · rw [← hc]; exact readdec_other s v w hs hp hc h hin
    · rw [← hc]; exact this (fun v hv => by rw [h] at hv; cases hv)
    · rw [← hc]; exact this (fun v hv => by rw [h] at hv; cases hv)
  · rw [← hc]; exact readdec_yes s w hs hp hc

theorem star : "*" ++ "errors.errorString" = "*errors.errorString" := by decide
/-- The one type of that name. -/
theorem rowPtr (u : TypeId) (h : Tryz.prog.typeName? 3 u = some "*errors.errorString") : u = 206 :=
  typeName_ptr_named (nm := "errors.errorString") (by rw [star]; kernel_rfl) (by kernel_rfl) (by decide) u (by rw [star]; exact h)

theorem range_of {W : World} {r : List (String × DataW Unit)} (h : laidMet Tryz.prog ((rangeName, Rows.laid_strconv_ErrRange) :: r) W) : ∃ tp p, W.var? Tryz.prog rangeName = some #[.iface tp p] := by
  obtain ⟨a0, s0, hv0, _⟩ := laid_sentinel (g := 2) (ti := 97) (te := 208) (ts := 9) h (by kernel_rfl) (by kernel_rfl) Tryz.underlying97 rowPtr Tryz.underlying206 Tryz.underlying208 rfl rfl Tryz.underlying9 (by kernel_rfl) (by kernel_rfl)
  exact ⟨_, _, hv0⟩
theorem syn_of {W : World} {r : List (String × DataW Unit)} (h : laidMet Tryz.prog ((synName, Rows.laid_strconv_ErrSyntax) :: r) W) : ∃ tp p, W.var? Tryz.prog synName = some #[.iface tp p] := by
  obtain ⟨a0, s0, hv0, _⟩ := laid_sentinel (g := 1) (ti := 97) (te := 208) (ts := 9) h (by kernel_rfl) (by kernel_rfl) Tryz.underlying97 rowPtr Tryz.underlying206 Tryz.underlying208 rfl rfl Tryz.underlying9 (by kernel_rfl) (by kernel_rfl)
  exact ⟨_, _, hv0⟩

end Go.Proofs.YtlelcecbpahliaaGreatDoor
