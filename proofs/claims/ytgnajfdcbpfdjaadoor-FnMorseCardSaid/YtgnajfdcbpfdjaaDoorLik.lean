/- The letters whose signs begin with some others: the model's and the program's. -/
import Derived.Test.YtgnajfdcbpfdjaaDoorFnd
import Derived.Test.YtgnajfdcbpfdjaaDoorLayX
import Derived.Shelf.Strings.SlTrimAscii
import Derived.Shelf.Strings.Prefix
namespace Go.Proofs.YtgnajfdcbpfdjaaDoor
open Go.ChangeShapes Go.WideShapes Go.ChangeAt Go.RowKit Pm

/-- A sign? -/
def dotB (b : UInt8) : Bool := b == 46 || b == 45
theorem trim_empty (l : List UInt8) : (Lib.trimS l [46, 45]).isEmpty = l.all dotB := by
  have hc : ∀ b, ([46, 45] : List UInt8).contains b = dotB b := fun b => by simp only [dotB, List.contains_cons, List.contains_nil, Bool.or_false]
  cases h : l.all dotB
  · have hx : ∃ x ∈ l, dotB x = false := by
      rw [← Bool.not_eq_true, List.all_eq_true] at h
      simp only [Classical.not_forall] at h
      obtain ⟨x, hx, h2⟩ := h
      exact ⟨x, hx, by simpa using h2⟩
    obtain ⟨x, hx, h2⟩ := hx
    have key : ∀ (m : List UInt8), x ∈ m → x ∈ m.dropWhile (([46, 45] : List UInt8).contains ·) := by
      intro m
      induction m with
      | nil => intro h; exact h
      | cons y m ih =>
        intro hm
        rw [List.dropWhile_cons]
        split
        · rename_i hy
          rcases List.mem_cons.1 hm with e | e
          · subst e; rw [hc, h2] at hy; cases hy
          · exact ih e
        · exact hm
    have h3 : x ∈ Lib.trimS l [46, 45] := by
      unfold Lib.trimS Lib.trimLeftS Lib.trimRightS
      refine key _ ?_
      rw [List.mem_reverse]
      exact key _ (List.mem_reverse.2 hx)
    cases e : Lib.trimS l [46, 45]
    · rw [e] at h3; cases h3
    · rfl
  · have e : Lib.trimRightS l [46, 45] = [] := by
      unfold Lib.trimRightS
      rw [List.reverse_eq_nil_iff]
      have hr : ∀ x ∈ l.reverse, ([46, 45] : List UInt8).contains x = true := fun x hx => by rw [hc]; exact List.all_eq_true.1 h x (List.mem_reverse.1 hx)
      revert hr
      induction l.reverse with
      | nil => intro _; rfl
      | cons y m ih =>
        intro hr
        rw [List.dropWhile_cons, if_pos (hr y (by simp))]
        exact ih (fun x hx => hr x (by simp [hx]))
    unfold Lib.trimS
    rw [e]; rfl
theorem trim_any (t : ByteArray) (w : World) (hs : t.size ≤ 1048576) :
    Calls Tryd.prog 43 #[.string t, .string ⟨#[46, 45]⟩] w fun e w' => ∃ u : ByteArray, u.toList.isEmpty = t.data.toList.all dotB ∧ e = .returned (.string u) ∧ Below w.heap.size w w' := by
  refine (Any.strings_Trim_laid Tryd.lays160 (by kernel_rfl) t ⟨#[46, 45]⟩ w (by omega) (by decide) (ascii_of_all (by decide))).mono fun e w' ⟨he, hb⟩ => ⟨_, ?_, he, hb⟩
  rw [ByteArray.toList_eq]
  exact trim_empty _
/-- Do the signs of a letter begin with these? -/
def preB (t : ByteArray) (r : Nat) : Bool := Lib.hasPrefix (morseB r) t.data.toList
theorem kclo_any (t : ByteArray) (b r : Nat) (w : World) (hc : w.cell? ⟨b, 0, none⟩ = some (.string t)) :
    Calls Tryd.prog 44 #[.string (morseS r), .pointer (some ⟨b, 0, none⟩)] w fun e w' => e = .returned (.bool (preB t r)) ∧ Below w.heap.size w w' := by
  have HP := Lib.hid (show ∀ w, Calls Tryd.prog 45 #[.string (morseS r), .string t] w fun e w' => e = .returned (.bool (preB t r)) ∧ w' = w from fun w => Any.strings_HasPrefix Tryd.lays99 (morseS r) t w)
  obtain ⟨s, hs⟩ : ∃ s, s = morseS r := ⟨_, rfl⟩
  rw [← hs] at HP ⊢
  clear hs
  go_enter Tryd.func44, Tryd.ntmps44
  go_wp2_with (go_at_call 45; refine (HP.out _).mono ?_; rintro e w1 ⟨rfl, rfl⟩)
  go_ret
  exact ⟨rfl, Below.refl _ _⟩
/-- The letters, and a code. -/
def likV (t : ByteArray) : ByteArray := if t.data.toList.all dotB then ⟨(pickL (preB t) 26).toArray⟩ else ⟨#[]⟩
def likC (t : ByteArray) : Int := if t.data.toList.all dotB then 0 else 1
theorem letterslike_any (t : ByteArray) (w : World) (hz : t.size ≤ 1048576) (hT : SignsAt w) :
    Calls Tryd.prog 20 #[.string t] w fun e w' => e = .returned (.tuple #[.string (likV t), .int .i64 (likC t)]) ∧ Below w.heap.size w w' := by
  have eg : ∀ args w, (callFunc 44 args).run Tryd.prog w = .ok (.enter 44 args) w := enters_of Tryd.func44 (by kernel_rfl) rfl
  have HT := Lib.hid (fun w => trim_any t w hz)
  have HW := Lib.hid (show ∀ W : World, Below w.heap.size w W → W.cell? ⟨w.heap.size, 0, none⟩ = some (.string t) →
      Calls Tryd.prog 41 #[.func (.func 44) #[] #[.pointer (some ⟨w.heap.size, 0, none⟩)]] W fun e w' => e = .returned (.string ⟨(pickL (preB t) 26).toArray⟩) ∧ Below W.heap.size W w' from fun W hb hcell =>
    lwith_any 44 #[.pointer (some ⟨w.heap.size, 0, none⟩)] (preB t) W eg (hT.below hb) (fun W' r _ hb' => kclo_any t w.heap.size r W' (cell_below hcell hb')))
  clear hT
  cases hb : t.data.toList.all dotB
  · have HV := Lib.hid (show likV t = ⟨#[]⟩ by unfold likV; rw [hb]; rfl)
    have HC := Lib.hid (show likC t = 1 by unfold likC; rw [hb]; rfl)
    rw [hb] at HT
    clear hb HW
    go_enter Tryd.func20, Tryd.ntmps20
    go_wp2_with (go_at_call 43; refine (HT.out _).mono ?_; rintro e w1 ⟨u, hu, rfl, hb⟩; have HB := Lib.hid (Below.next (a := w) (by go_grown) hb); clear hb)
    go_ret2
    exact ⟨retSI HV.out.symm HC.out.symm, HB.out⟩
  · obtain ⟨v, hv⟩ : ∃ v, v = (⟨(pickL (preB t) 26).toArray⟩ : ByteArray) := ⟨_, rfl⟩
    have HV := Lib.hid (show likV t = v by unfold likV; rw [hb, hv]; rfl)
    have HC := Lib.hid (show likC t = 0 by unfold likC; rw [hb]; rfl)
    rw [hb] at HT
    rw [← hv] at HW
    clear hb hv
    go_enter Tryd.func20, Tryd.ntmps20
    go_wp2_with (first
      | (go_at_call 43; refine (HT.out _).mono ?_; rintro e w1 ⟨u, hu, rfl, hb⟩; have HB := Lib.hid (Below.next (a := w) (by go_grown) hb); have HX := Lib.hid (cell_below (a := ⟨w.heap.size, 0, none⟩) (v := .string t) (by go_cell) hb); clear hb)
      | (go_at_call 41; refine (HW.out _ HB.out HX.out).mono ?_; rintro e w2 ⟨rfl, hb⟩; have HB2 := Lib.hid (Below.next HB.out hb); clear hb))
    go_ret2
    exact ⟨retSI HV.out.symm HC.out.symm, HB2.out⟩
theorem prefix_ext (s t : ByteArray) (_h : t.size ≤ s.size) : ((s.extract 0 t.size).toList == t.toList) = Lib.hasPrefix s.data.toList t.data.toList := by
  have e : (s.extract 0 t.size).toList = s.data.toList.take t.data.toList.length := by
    rw [Lib.extract_toList, List.drop_zero, Nat.sub_zero]; rfl
  rw [e, ByteArray.toList_eq]
  unfold Lib.hasPrefix
  rw [Bool.eq_iff_iff, beq_iff_eq, List.isPrefixOf_iff_prefix]
  constructor
  · intro h; rw [← h]; exact List.take_prefix _ _
  · intro h; exact (List.prefix_iff_eq_take.1 h).symm
theorem prefix_no (s t : ByteArray) (h : s.size < t.size) : Lib.hasPrefix s.data.toList t.data.toList = false := by
  unfold Lib.hasPrefix
  rw [← Bool.not_eq_true, List.isPrefixOf_iff_prefix]
  intro hp
  have := hp.length_le
  have h1 : s.data.toList.length = s.size := rfl
  have h2 : t.data.toList.length = t.size := rfl
  omega
theorem dot_take {l : List UInt8} {k : Nat} (h : k < l.length) : (l.take (k + 1)).all dotB = ((l.take k).all dotB && dotB l[k]) := by
  rw [List.take_succ_eq_append_getElem h, List.all_append]; simp
theorem dot_no {l : List UInt8} {k : Nat} (h : k < l.length) (hb : dotB l[k] = false) : l.all dotB = false := by
  rw [← Bool.not_eq_true, List.all_eq_true]
  intro hall
  rw [hall _ (List.getElem_mem h)] at hb; cases hb
end Go.Proofs.YtgnajfdcbpfdjaaDoor
