/- Colors of bytes; the light at a time: the model's and the program's. -/
import Derived.Test.YtgcaipjknpcepabFrm
import Derived.Test.YtgcaipjknpcepabLen
namespace Go.Proofs.Ytgcaipjknpcepab
open Go.ChangeShapes Go.WideShapes Go.ChangeAt Go.RowKit Pm

theorem retSIp {a b : ByteArray} {c d : Int} (h : a = b) (k : c = d) : Ending.returned (.tuple #[.string a, .int .i64 c]) = .returned (.tuple #[.string b, .int .i64 d]) := by rw [h, k]
theorem conv_oneP (W : World) (c : UInt8) (z : Int) (hz : z = (c.toNat : Int)) :
    (convert 38 9 (.slice (some ⟨W.heap.size, 0, none⟩) 1 1)).run Try.prog (W.alloc (.cells #[Value.int .u8 z] 5)) = .ok (.string ⟨#[c]⟩) (W.alloc (.cells #[Value.int .u8 z] 5)) := by
  subst hz
  exact run_convert_bytes_back (P := Try.prog) (W.alloc (.cells #[Value.int .u8 (c.toNat : Int)] 5)) 38 9 5 ⟨W.heap.size, 0, none⟩ 1 [c] Try.underlying38 Try.underlying5 Try.underlying9 (fun j hj => by
    obtain rfl : j = 0 := by simpa using hj
    simp [Addr.add])
/-- The color of the model's byte. -/
def nameV (b : UInt8) : ByteArray := if b = 0 then ⟨#[]⟩ else ⟨#[b]⟩
theorem sname_any (b : UInt8) (w : World) :
    Calls Try.prog 28 #[.int .u8 (b.toNat : Int)] w fun e w' => e = .returned (.string (nameV b)) ∧ Below w.heap.size w w' := by
  by_cases h : b = 0
  · have HV := Lib.hid (show nameV b = ⟨#[]⟩ by unfold nameV; rw [if_pos h])
    have h0 : (b.toNat : Int) = 0 := by rw [h]; rfl
    rw [h0]
    clear h h0
    go_enter Try.func28, Try.ntmps28
    go_wp2
    go_ret
    exact ⟨retS HV.out.symm, Below.refl _ _⟩
  · have HV := Lib.hid (show nameV b = ⟨#[b]⟩ by unfold nameV; rw [if_neg h])
    have h0 : (b.toNat : Int) ≠ 0 := by intro e; exact h (UInt8.toNat_inj.1 (by show b.toNat = 0; omega))
    obtain ⟨z, hz⟩ : ∃ z, z = (b.toNat : Int) := ⟨_, rfl⟩
    have hcv := fun (W : World) => conv_oneP W b z hz
    rw [← hz] at h0 ⊢
    have h1 : (z == 0) = false := beq_eq_false_iff_ne.2 h0
    clear h h0 hz
    go_enter Try.func28, Try.ntmps28
    go_wp2
    go_ret
    exact ⟨retS HV.out.symm, (Below.refl _ _).alloc (Nat.le_refl _) _⟩
/-- The color with a sign. -/
def colP (t : ByteArray) : ByteArray := if t.toList == [45] then ⟨#[]⟩ else t
theorem colp_any (s : ByteArray) (w : World) :
    Calls Try.prog 30 #[.string s] w fun e w' => e = .returned (.string (colP s)) ∧ w = w' := by
  cases h : (s.toList == [45])
  · have HV := Lib.hid (show colP s = s by unfold colP; rw [h]; rfl)
    go_enter Try.func30, Try.ntmps30
    go_wp2
    go_ret
    exact ⟨retS HV.out.symm, rfl⟩
  · have HV := Lib.hid (show colP s = ⟨#[]⟩ by unfold colP; rw [h]; rfl)
    go_enter Try.func30, Try.ntmps30
    go_wp2
    go_ret
    exact ⟨retS HV.out.symm, rfl⟩
theorem colP_name {b : UInt8} (h : picb b = true) : colP ⟨#[b]⟩ = nameV (unT b) := by
  have e : (⟨#[b]⟩ : ByteArray).toList = [b] := by rw [ByteArray.toList_eq]
  unfold colP nameV unT
  rw [e]
  rcases picb_cases h with rfl | rfl | rfl | rfl | rfl <;> rfl
/-- The light at a time. -/
def atV (T : List UInt8) (t : Int) : ByteArray := nameV (unT (T.getD (plc t T.length) 45))
def litV (ps : List Ph) (t : Int) : ByteArray := if validP ps then atV (tenL ps) t else ⟨#[]⟩
theorem rot_head (T : List UInt8) (b : Nat) (hb : b < T.length) : (⟨(rotL T b).toArray⟩ : ByteArray).extract 0 1 = ⟨#[T.getD b 45]⟩ := by
  rw [ext_eq]
  refine WideShapes.bytes_inj ?_
  unfold rotL
  have e : T.getD b 45 = T[b] := by rw [List.getD_eq_getElem?_getD, List.getElem?_eq_getElem hb]; rfl
  rw [List.drop_zero, List.drop_eq_getElem_cons hb, e]
  rfl
theorem get_map (T : List UInt8) (b : Nat) (hb : b < T.length) : (T.map unT)[b]'(by rw [List.length_map]; exact hb) = unT (T.getD b 45) := by
  rw [List.getElem_map]; simp [hb]
theorem slight_any (v : Value) (ps : List Ph) (t : Int) (w : World) (hm : ps.length ≤ 1048576) (h : PhAre w v ps) :
    Calls Try.prog 13 #[v, .int .i64 t] w fun e w' => e = .returned (.tuple #[.string (litV ps t), .int .i64 (lenC ps)]) ∧ Below w.heap.size w w' := by
  have HV := Lib.hid (sval_any v ps w hm h)
  cases hb : validP ps
  · have HZ := Lib.hid (show litV ps t = ⟨#[]⟩ by unfold litV; rw [hb]; rfl)
    have HC := Lib.hid (show lenC ps = 1 by unfold lenC; rw [hb]; rfl)
    rw [hb] at HV
    clear hb h
    go_enter Try.func13, Try.ntmps13
    go_wp2_with (go_at_call 22; refine HV.out.mono ?_; rintro e w1 ⟨rfl, rfl⟩)
    go_ret2
    exact ⟨retSIp HZ.out.symm HC.out.symm, Below.refl _ _⟩
  · have hv := validP_out hb
    have hT := hv.ten
    have HS := Lib.hid (stenths_any v ps w h hv)
    have HZ := Lib.hid (show litV ps t = atV (tenL ps) t by unfold litV; rw [hb]; rfl)
    have HC := Lib.hid (show lenC ps = 0 by unfold lenC; rw [hb]; rfl)
    obtain ⟨T, hTT⟩ : ∃ T, T = tenL ps := ⟨_, rfl⟩
    rw [← hTT] at HS HZ hT
    have hp : 0 < (T.map unT).length := by rw [List.length_map]; exact hT.pos
    have hq : (T.map unT).length ≤ 600 := by rw [List.length_map]; exact hT.most
    have HM := Lib.hid (fun w => smod_any t (T.map unT).length w hp hq)
    have hpl : plc t (T.map unT).length < (T.map unT).length := plc_lt t _ hp
    have hg := get_map T (plc t (T.map unT).length) (by rw [List.length_map] at hpl ⊢; exact hpl)
    have HA := Lib.hid (show atV T t = nameV ((T.map unT)[plc t (T.map unT).length]'hpl) by rw [hg]; unfold atV; rw [List.length_map])
    obtain ⟨l, hl⟩ : ∃ l, l = T.map unT := ⟨_, rfl⟩
    rw [hb] at HV
    clear hb h hv hg hT hTT
    have HA2 := Lib.hid (show ∃ hpl : plc t l.length < l.length, atV T t = nameV (l[plc t l.length]'hpl) by subst hl; exact ⟨hpl, HA.out⟩)
    rw [← hl] at HS hp hq HM hpl
    clear hl HA
    obtain ⟨q, hq2⟩ : ∃ q, q = plc t l.length := ⟨_, rfl⟩
    rw [← hq2] at hpl
    have HA3 := Lib.hid (show atV T t = nameV l[q] by obtain ⟨_, h⟩ := HA2.out; rw [h]; congr 1; simp only [hq2])
    rw [← hq2] at HM
    clear hq2 HA2
    have hqi : (q : Int) < (l.length : Int) := by omega
    go_enter Try.func13, Try.ntmps13
    go_wp2_with (go_at_call 22; refine HV.out.mono ?_; rintro e w1 ⟨rfl, rfl⟩; refine Hid.out ?_)
    refine Lib.hid ?_
    go_wp2_with (go_at_call 23; refine HS.out.mono ?_; rintro e w2 ⟨v2, rfl, ho, hb⟩; refine Hid.out ?_)
    refine Lib.hid ?_
    obtain ⟨g, cap, rfl, _, hcell⟩ := ho.form hp
    have c0 := hcell q hpl
    have HB := Lib.hid hb
    have HN := Lib.hid (fun w => sname_any l[q] w)
    obtain ⟨u, hu⟩ : ∃ u, u = l[q] := ⟨_, rfl⟩
    rw [← hu] at c0 HN HA3
    clear ho hb hcell hu
    go_wp2_with (first
      | (go_at_call 29; refine (HM.out _).mono ?_; rintro e w3 ⟨rfl, rfl⟩)
      | (go_at_call 28; refine (HN.out _).mono ?_; rintro e w4 ⟨rfl, hb⟩; have HB2 := Lib.hid (Below.next HB.out hb); clear hb))
    go_ret2
    exact ⟨retSIp (HZ.out.trans HA3.out).symm HC.out.symm, HB2.out⟩
theorem light_any (v : Value) (ps : List Ph) (t : Int) (w : World) (hm : ps.length ≤ 1048576) (h : PhAre w v ps) :
    Calls Try.prog 14 #[v, .int .i64 t] w fun e w' => e = .returned (.tuple #[.string (litV ps t), .int .i64 (lenC ps)]) ∧ Below w.heap.size w w' := by
  have HV := Lib.hid (val_any v ps w hm h)
  cases hb : validP ps
  · have HZ := Lib.hid (show litV ps t = ⟨#[]⟩ by unfold litV; rw [hb]; rfl)
    have HC := Lib.hid (show lenC ps = 1 by unfold lenC; rw [hb]; rfl)
    rw [hb] at HV
    clear hb h
    go_enter Try.func14, Try.ntmps14
    go_wp2_with (go_at_call 25; refine HV.out.mono ?_; rintro e w1 ⟨rfl, hb⟩)
    go_ret2
    exact ⟨retSIp HZ.out.symm HC.out.symm, hb⟩
  · have hv := validP_out hb
    have hT := hv.ten
    have HS := Lib.hid (fun w h => picture_any v ps w h hv)
    have HPH := Lib.hid h
    have HZ := Lib.hid (show litV ps t = atV (tenL ps) t by unfold litV; rw [hb]; rfl)
    have HC := Lib.hid (show lenC ps = 0 by unfold lenC; rw [hb]; rfl)
    obtain ⟨T, hTT⟩ : ∃ T, T = tenL ps := ⟨_, rfl⟩
    rw [← hTT] at HS HZ hT
    have hpl := plc_lt t T.length hT.pos
    have HF := Lib.hid (fun w => from_any T t w hT.pos hT.most)
    have HH := Lib.hid (rot_head T (plc t T.length) hpl)
    have hpic : picb (T.getD (plc t T.length) 45) = true := by
      refine hT.pic _ ?_
      rw [List.getD_eq_getElem?_getD, List.getElem?_eq_getElem hpl]
      exact List.getElem_mem _
    have HCP := Lib.hid (show ∀ w, Calls Try.prog 30 #[.string ((⟨(rotL T (plc t T.length)).toArray⟩ : ByteArray).extract 0 1)] w fun e w' => e = .returned (.string (atV T t)) ∧ w = w' from fun w => by
      have h1 := colp_any ((⟨(rotL T (plc t T.length)).toArray⟩ : ByteArray).extract 0 1) w
      rw [HH.out] at h1 ⊢
      rw [colP_name hpic] at h1
      exact h1)
    have hrz : (⟨(rotL T (plc t T.length)).toArray⟩ : ByteArray).size = T.length := by rw [pic_size, rotL_len]
    obtain ⟨s, hs⟩ : ∃ s, s = (⟨T.toArray⟩ : ByteArray) := ⟨_, rfl⟩
    obtain ⟨r, hr⟩ : ∃ r, r = (⟨(rotL T (plc t T.length)).toArray⟩ : ByteArray) := ⟨_, rfl⟩
    rw [← hs] at HS HF
    rw [← hr] at HF HCP hrz
    have h1r : (1 : Int) ≤ (r.size : Int) := by have := hT.pos; omega
    rw [hb] at HV
    clear hb h hv hT hTT hpl hpic hs hr hrz HH
    go_enter Try.func14, Try.ntmps14
    go_wp2_with (first
      | (go_at_call 25; refine HV.out.mono ?_; rintro e w1 ⟨rfl, hb⟩; have HB := Lib.hid hb; have HP1 := Lib.hid (HPH.out.below hb); clear hb)
      | (go_at_call 31; refine (HS.out _ HP1.out).mono ?_; rintro e w2 ⟨rfl, hb⟩; have HB2 := Lib.hid (Below.next HB.out hb); clear hb)
      | (go_at_call 32; refine (HF.out _).mono ?_; rintro e w3 ⟨rfl, nn, rfl⟩)
      | (go_at_call 30; refine (HCP.out _).mono ?_; rintro e w4 ⟨rfl, rfl⟩))
    go_ret2
    exact ⟨retSIp HZ.out.symm HC.out.symm, below_drewN HB2.out nn⟩
end Go.Proofs.Ytgcaipjknpcepab
