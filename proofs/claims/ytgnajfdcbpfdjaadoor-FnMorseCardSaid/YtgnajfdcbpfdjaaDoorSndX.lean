/- The phases of a text: the model's function. Sending a text: the model's function. Sending a text: the program's function. -/
import Derived.Test.YtgnajfdcbpfdjaaDoorSndM
import Derived.Test.YtgnajfdcbpfdjaaDoorPhsC
import Derived.Test.YtgnajfdcbpfdjaaDoorSpiX
import Derived.Lib.OthersKept
import Derived.WalkSmall
namespace Go.Proofs.YtgnajfdcbpfdjaaDoor
open Go.ChangeShapes Go.WideShapes Go.ChangeAt Go.RowKit Pm

theorem wpList_app_phj {ops : Array Oper} {rest : List Oper} {o : Oper} {a : Act} {Q : Exit → Act → World → Prop} (hgd : o.guard = none) (s x : Operand)
    (B : Nat) (v : Value) (ps : List Ph) (p : Ph) (w0 wr : World) (T : TypeId) (hown : OwnPh wr B v ps) (hb : Below B w0 wr) (hB : B ≤ w0.heap.size) (hl : ps.length ≤ 1048577)
    (ho : o.op = .call { callee := .builtin .append, args := #[s, x], argTypes := #[32, 32] })
    (hs : a.eval s = v) (n : Nat) (hn : wr.heap.size = n) (hx : a.eval x = .slice (some ⟨n, 0, none⟩) 1 1)
    (h : ∀ v' w', OwnPh w' B v' (ps ++ [p]) → Below B w0 w' → wpList Tryd.prog ops Q rest (a.put o.dst v') w') :
    wpList Tryd.prog ops Q (o :: rest) a (wr.alloc (.cells #[.string p.1, .int .i64 p.2] T)) := by
  subst hn
  exact wpList_app_ph hgd s x B v ps p w0 wr T hown hb hB hl ho hs hx h
theorem OwnPh.litj (w : World) : OwnPh (w.alloc (.cells #[] 45)) w.heap.size (.slice (some ⟨w.heap.size, 0, Option.none⟩) 0 0) [] := World.ownsRow_lit w #[] 0 (Nat.le_refl _) (by unfold maxLen; omega) rfl
end Go.Proofs.YtgnajfdcbpfdjaaDoor
namespace Go.Proofs.YtgnajfdcbpfdjaaDoor
open Go.ChangeShapes Go.WideShapes Go.ChangeAt Go.RowKit Pm

def sndV (s c : ByteArray) (u : Int) : List Ph := if sntB s && colB c then (if inB 1 50 [u] then sndP c u 0 s.data.toList else []) else []
def sndC (s c : ByteArray) (u : Int) : Int := if sntB s && colB c then (if inB 1 50 [u] then 0 else 2) else 1
def OwnPairI (L : List Ph) (c : Int) (w : World) (e : Ending) (w' : World) : Prop := ∃ v, e = .returned (.tuple #[v, .int .i64 c]) ∧ OwnPh w' w.heap.size v L ∧ Below w.heap.size w w'
theorem retVIs {v : Value} {a b : Int} (h : a = b) : Ending.returned (.tuple #[v, .int .i64 a]) = .returned (.tuple #[v, .int .i64 b]) := by rw [h]
theorem unit_out {u : Int} (h : inB 1 50 [u] = true) : 1 ≤ u ∧ u ≤ 50 := by simpa [inB] using h
theorem sunit_any (u : Int) (w : World) :
    Calls Tryd.prog 32 #[.int .i64 u] w fun e w' => e = .returned (.bool (inB 1 50 [u])) ∧ w = w' := by
  have H := Lib.hid (fun w => in_any u 1 50 w)
  obtain ⟨b, hb⟩ : ∃ b, b = inB 1 50 [u] := ⟨_, rfl⟩
  rw [← hb] at H ⊢
  clear hb
  go_enter Tryd.func32, Tryd.ntmps32
  go_wp2_with (go_at_call 62; refine (H.out _).mono ?_; rintro e w1 ⟨rfl, rfl⟩)
  go_ret
  exact ⟨rfl, rfl⟩
end Go.Proofs.YtgnajfdcbpfdjaaDoor
namespace Go.Proofs.YtgnajfdcbpfdjaaDoor
open Go.ChangeShapes Go.WideShapes Go.ChangeAt Go.RowKit Pm

theorem wpList_app_phi {ops : Array Oper} {rest : List Oper} {o : Oper} {a : Act} {Q : Exit → Act → World → Prop} (hgd : o.guard = none) (s x : Operand)
    (B : Nat) (v : Value) (ps : List Ph) (p : Ph) (w0 wr : World) (T : TypeId) (hown : OwnPh wr B v ps) (hb : Below B w0 wr) (hB : B ≤ w0.heap.size) (hl : ps.length ≤ 1048577)
    (ho : o.op = .call { callee := .builtin .append, args := #[s, x], argTypes := #[32, 32] })
    (hs : a.eval s = v) (n : Nat) (hn : wr.heap.size = n) (hx : a.eval x = .slice (some ⟨n, 0, none⟩) 1 1)
    (h : ∀ (v' : Value) (w' : World), OwnPh w' B v' (ps ++ [p]) → Below B w0 w' → (∀ (k : Nat) (t : ByteArray) (q : Nat), wr.heap[k]? = some (Obj.stringIter t q) → w'.heap[k]? = some (Obj.stringIter t q)) → wpList Tryd.prog ops Q rest (a.put o.dst v') w') :
    wpList Tryd.prog ops Q (o :: rest) a (wr.alloc (.cells #[.string p.1, .int .i64 p.2] T)) := by
  subst hn
  obtain ⟨i0, hi, hz0, hz1, hz2⟩ := phinfo_parts infoPh
  have hsz := hb.size
  have hrow : (wr.alloc (.cells #[.string p.1, .int .i64 p.2] T)).ownsRow B 45 2 v ps.length (phV ps) := hown.below ((Below.refl _ _).alloc (Nat.le_refl _) _)
  refine wpList_append_own _ hgd s x 32 ho B 45 i0 (.agg #[.string ⟨#[]⟩, .int .i64 0]) 2 24 Tryd.underlying32 hi hz0 hz1 hz2 rfl (by decide) v ps.length (phV ps) hs hrow ⟨wr.heap.size, 0, none⟩ 1 1 [.string p.1, .int .i64 p.2] hx rfl (ph_cells wr p T) (by intro u hu; simp at hu; rcases hu with rfl | rfl <;> rfl) (by unfold maxLen; omega) (by omega) (by simp; omega) ?_
  intro v' w' h2 h3 _
  refine h v' w' ?_ ?_ ?_
  · unfold OwnPh
    rw [phV_app, List.length_append, List.length_singleton]
    exact h2
  · exact (hb.alloc (Nat.le_trans hB hb.size) _).grown h3 (by simp; omega) (fun k hk => (hrow.lt k hk).1)
  · have hk := ((Lib.OthersKept.refl 45 none wr).alloc (.cells #[.string p.1, .int .i64 p.2] T)).grown h3 (fun g hg => by
      rcases hrow.2 with ⟨rfl, _⟩ | ⟨g', cap, cur, rfl, _, hgg, _⟩
      · simp [Value.ownBlock] at hg
      · simp [Value.ownBlock] at hg
        subst hg
        exact ⟨cur, _, hgg⟩)
    exact fun k t q h1 => hk k _ h1 (by simp) (fun c fz => Obj.noConfusion)
/-- A row of the call's own stays while an iterator goes on. -/
theorem OwnPh.iterAt {w : World} {B : Nat} {v : Value} {L : List Ph} (h : OwnPh w B v L) {k : Nat} {t : ByteArray} {q : Nat} (hk : w.heap[k]? = some (Obj.stringIter t q)) (p : Nat) : OwnPh (w.iterAt k t p) B v L := by
  refine ⟨h.1, ?_⟩
  rcases h.2 with h2 | ⟨g, cap, cur, h1, h3, h4, h5⟩
  · exact .inl h2
  · refine .inr ⟨g, cap, cur, h1, h3, ?_, h5⟩
    have hne : g ≠ k := fun e => by subst e; rw [h4] at hk; cases hk
    rw [Lib.iterAt_other _ _ _ _ _ hne]; exact h4
theorem iter_new (w : World) (t : ByteArray) : (w.iter t 0).heap[w.heap.size]? = some (Obj.stringIter t 0) := World.iter_heap w t 0
set_option maxRecDepth 100000 in
set_option maxHeartbeats 4000000 in
theorem send_any (s c : ByteArray) (u : Int) (w : World) (hn : LenAt w) (hsg : SignsAt w) :
    Calls Tryd.prog 22 #[.string s, .string c, .int .i64 u] w (OwnPairI (sndV s c u) (sndC s c u) w) := by
  have HT := Lib.hid (cans_any s w hn)
  have HCL := Lib.hid (fun w => hascol_any c w)
  cases hb : sntB s
  · have HV := Lib.hid (show sndV s c u = [] by unfold sndV; rw [hb]; rfl)
    have HC := Lib.hid (show sndC s c u = 1 by unfold sndC; rw [hb]; rfl)
    rw [hb] at HT
    clear hb hn hsg
    go_enter Tryd.func22, Tryd.ntmps22
    go_wp2_with (go_at_call 47; refine HT.out.mono ?_; rintro e w1 ⟨rfl, hb⟩; have HB := Lib.hid hb; clear hb)
    go_ret2
    exact ⟨_, retVIs HC.out.symm, by rw [HV.out]; exact OwnPh.none _ _, HB.out⟩
  cases hc : colB c
  · have HV := Lib.hid (show sndV s c u = [] by unfold sndV; rw [hb, hc]; rfl)
    have HC := Lib.hid (show sndC s c u = 1 by unfold sndC; rw [hb, hc]; rfl)
    rw [hb] at HT
    rw [hc] at HCL
    clear hb hc hn hsg
    go_enter Tryd.func22, Tryd.ntmps22
    go_wp2_with (first
      | (go_at_call 47; refine HT.out.mono ?_; rintro e w1 ⟨rfl, hb⟩; have HB := Lib.hid hb; clear hb)
      | (go_at_call 48; refine (HCL.out _).mono ?_; rintro e w2 ⟨rfl, rfl⟩))
    go_ret2
    exact ⟨_, retVIs HC.out.symm, by rw [HV.out]; exact OwnPh.none _ _, HB.out⟩
  cases hu : inB 1 50 [u]
  · have HV := Lib.hid (show sndV s c u = [] by unfold sndV; rw [hb, hc, hu]; rfl)
    have HC := Lib.hid (show sndC s c u = 2 by unfold sndC; rw [hb, hc, hu]; rfl)
    rw [hb] at HT
    rw [hc] at HCL
    clear hb hc hn hsg
    go_enter Tryd.func22, Tryd.ntmps22
    go_wp2_with (first
      | (go_at_call 47; refine HT.out.mono ?_; rintro e w1 ⟨rfl, hb⟩; have HB := Lib.hid hb; clear hb)
      | (go_at_call 48; refine (HCL.out _).mono ?_; rintro e w2 ⟨rfl, rfl⟩)
      | (go_at_call 37; refine (within_any _ _ _ _ _ (ints_one_at _ _ _ (by simp))).mono ?_; rintro e w3 ⟨rfl, rfl⟩))
    go_ret2
    exact ⟨_, retVIs HC.out.symm, by rw [HV.out]; exact OwnPh.none _ _, HB.out.alloc HB.out.size _⟩
  · have hS := sent_out hb
    obtain ⟨hu1, hu2⟩ := unit_out hu
    have HV := Lib.hid (show sndV s c u = sndP c u 0 s.data.toList by unfold sndV; rw [hb, hc, hu]; rfl)
    have HC := Lib.hid (show sndC s c u = 0 by unfold sndC; rw [hb, hc, hu]; rfl)
    have hs12 := hS.most
    have hs1 := hS.pos
    have HS := Lib.hid hS
    have hall : (sndP c u 0 s.data.toList).length ≤ 96 := by
      have h1 := sndP_len c u s.data.toList 0 (fun x hx => by
        obtain ⟨j, hj, rfl⟩ := List.getElem_of_mem hx
        rw [byte_at s j (by simpa using hj)]
        exact hS.byte j (by simpa using hj))
      rw [sz_toList] at h1
      omega
    obtain ⟨R, hR⟩ : ∃ R, R = sndP c u 0 s.data.toList := ⟨_, rfl⟩
    rw [← hR] at hall HV
    have HR := Lib.hid hR
    have HCH := Lib.hid (fun w => chars_any s w (by omega) (fun j b hj => by
      obtain ⟨hl, rfl⟩ := List.getElem?_eq_some_iff.1 hj
      rw [byte_at s j (by simpa using hl)]
      rcases hS.byte j (by simpa using hl) with q | q
      · rw [q]; decide
      · obtain ⟨r, hr, e⟩ := cap_num q
        omega))
    have HSG := Lib.hid hsg
    rw [hb] at HT
    rw [hc] at HCL
    clear hb hc hS hn hsg hR
    go_enter Tryd.func22, Tryd.ntmps22
    go_wp2_with (go_at_call 47; refine HT.out.mono ?_; rintro e w1 ⟨rfl, hb⟩; refine Hid.out ?_)
    refine Lib.hid ?_
    have HB := Lib.hid hb
    have HSG1 := Lib.hid (HSG.out.below hb)
    clear hb
    go_wp2_with (first
      | (go_at_call 48; refine (HCL.out _).mono ?_; rintro e w2 ⟨rfl, rfl⟩)
      | (go_at_call 37; refine (within_any _ _ _ _ _ (ints_one_at _ _ _ (by simp))).mono ?_; rintro e w3 ⟨rfl, rfl⟩)
      | (go_at_call 25; refine (HCH.out _).mono ?_; rintro e w2 ⟨v2, rfl, ho, hb⟩; refine Hid.out ?_))
    refine Lib.hid ?_
    have hcl : (strV (chS s)).length = s.size := by simp [strV, chS]
    rw [hcl] at ho
    obtain ⟨g0, cap, rfl, _, _⟩ := ho.form (by omega)
    have HO := Lib.hid ho
    have HB2 := Lib.hid (Below.next (HB.out.alloc HB.out.size _) hb)
    have HSG2 := Lib.hid ((HSG1.out.below ((Below.refl _ _).alloc (Nat.le_refl _) _)).below hb)
    clear ho hb hcl hu
    go_wp2_with (fail)
    go_loopw [8, 9, 29] (fun o gp i wr => ∃ (k g : Nat) (L : List Ph), k ≤ s.size ∧ g ≤ 7 ∧ gp = .int .i64 g ∧ i = .int .i64 k ∧ L ++ sndP c u g (s.data.toList.drop k) = R ∧ OwnPh wr w2.heap.size o L ∧ Below w2.heap.size w2 wr) (fun _ _ i _ => s.size - (intOf i).toNat)
    case atStart => exact ⟨0, 0, [], Nat.zero_le _, by omega, rfl, rfl, HR.out.symm, OwnPh.none _ _, Below.refl _ _⟩
    case round =>
      obtain ⟨k, g, L, hk, hg, rfl, rfl, heq, hown, hbel⟩ := hrel
      by_cases hlt : k < s.size
      · have hkn : (k : Int) < (s.size : Int) := by omega
        have hcell := (own_below HO.out hbel).cellAt k (by omega)
        rw [chS_at s k hlt] at hcell
        have hbyte := HS.out.byte k hlt
        rw [sndP_drop c u g s k hlt] at heq
        have HSGk := Lib.hid (HSG2.out.below hbel)
        have HOW := Lib.hid hown
        have HBK := Lib.hid hbel
        obtain ⟨x, hxx⟩ : ∃ x, x = s[k] := ⟨_, rfl⟩
        rw [← hxx] at hcell hbyte heq
        clear hown hbel hxx
        by_cases hx : x = 32
        · have hxb : (x == 32) = true := by rw [hx]; rfl
          rw [if_pos hx] at heq
          have HE := Lib.hid heq
          clear heq hx hbyte
          go_wp2_with (fail)
          refine ⟨⟨k + 1, 7, L, by omega, Nat.le_refl _, rfl, rfl, HE.out, HOW.out, HBK.out⟩, ?_⟩
          show s.size - ((k : Int) + 1).toNat < s.size - ((k : Int)).toNat
          omega
        · have hxb : (x == 32) = false := beq_eq_false_iff_ne.2 hx
          obtain ⟨r, hr, hbr⟩ := cap_num (hbyte.resolve_left hx)
          rw [if_neg hx, hbr, Nat.add_sub_cancel_left] at heq
          obtain ⟨_, hml, hma⟩ := morse_facts r hr
          have hmz := morseS_size r
          have HSI := Lib.hid (fun w h => signs_any ⟨#[x]⟩ w h)
          rw [signs_one x r hr hbr] at HSI
          rw [show morseB r = (morseS r).data.toList from rfl] at heq hma
          obtain ⟨m, hm⟩ : ∃ m, m = morseS r := ⟨_, rfl⟩
          rw [← hm] at hmz HSI heq hma
          have hmz4 : m.size ≤ 4 := by omega
          have HMA := Lib.hid (show ∀ j (h : j < m.size), m[j] = 46 ∨ m[j] = 45 from fun j h => by
            have := List.all_eq_true.1 hma (m.data.toList[j]'(by simpa using h)) (List.getElem_mem _)
            rw [byte_at m j h] at this
            simpa using this)
          have HE := Lib.hid heq
          clear heq hx hbyte hm hml hmz hbr hma
          go_wp2_with (go_at_call 40; refine (HSI.out _ HSGk.out).mono ?_; rintro e w4 ⟨rfl, hb⟩; refine Hid.out ?_)
          refine Lib.hid ?_
          have HB4 := Lib.hid (Below.next HBK.out hb)
          have HO4 := Lib.hid (HOW.out.below hb)
          clear hb
          go_wp2_with (fail)
          go_loopw [8, 9] (fun o gp wr => ∃ (j g2 : Nat) (L2 : List Ph), j ≤ m.size ∧ g2 ≤ 7 ∧ gp = .int .i64 g2 ∧ wr.heap[w4.heap.size]? = some (Obj.stringIter m j) ∧ L2 ++ (sigP c u g2 (m.data.toList.drop j) ++ sndP c u 3 (s.data.toList.drop (k + 1))) = R ∧ OwnPh wr w2.heap.size o L2 ∧ Below w2.heap.size w2 wr) (fun _ _ wr => m.size - wr.iterPos w4.heap.size)
          case atStart => exact ⟨0, g, L, Nat.zero_le _, hg, rfl, iter_new w4 m, HE.out, HO4.out.below ((Below.refl _ _).alloc (Nat.le_refl _) _), HB4.out.alloc HB4.out.size _⟩
          case round =>
            obtain ⟨j, g2, L2, hj, hg2, rfl, hit, heq, hown, hbel⟩ := hrel
            have hL2 : L2.length ≤ 96 := by
              have := congrArg List.length heq
              rw [List.length_append] at this
              omega
            by_cases hjl : j < m.size
            · have hmj := HMA.out j hjl
              have hnx := fun ty => Lib.run_next_ascii_at (P := Tryd.prog) wr w4.heap.size m j ty hit hjl (by rcases hmj with h | h <;> rw [h] <;> decide)
              have HIT := Lib.hid hit
              have HIX := Lib.hid (Lib.iterAt_heap wr w4.heap.size m j (j + 1) hit)
              have HO5 := Lib.hid (hown.iterAt hit (j + 1))
              have HB5 := Lib.hid (Lib.below_iterAt hbel (k := w4.heap.size) HB4.out.size m (j + 1))
              rw [sigP_drop c u g2 m j hjl] at heq
              have hwr := pau_mul hg2 hu1 hu2
              have HUN := Lib.hid (fun w => units_any m[j] hmj w)
              have hsu : ((sgnU m[j] : Nat) : Int) = unB m[j] := by rcases hmj with h | h <;> rw [h] <;> rfl
              have hub : unB m[j] = 1 ∨ unB m[j] = 3 := by rcases hmj with h | h <;> rw [h] <;> first | exact .inl rfl | exact .inr rfl
              rw [hsu] at heq
              obtain ⟨y, hy⟩ : ∃ y, y = unB m[j] := ⟨_, rfl⟩
              rw [← hy] at HUN heq hub
              have hyu : wrap64 (y * u) = y * u := by rcases hub with h | h <;> rw [h] <;> unfold wrap64 <;> omega
              have HE2 := Lib.hid heq
              clear heq hown hbel hit hmj hsu hy hub
              by_cases hg0 : 0 < g2
              · have hgi : (0 : Int) < (g2 : Int) := by omega
                have HPA := Lib.hid (pauP_yes hg0 u)
                go_wp2_with (at_builtin; (refine wpList_app_phi rfl _ _ w2.heap.size _ L2 (⟨#[]⟩, (g2 : Int) * u) w2 _ _ HO5.out HB5.out (Nat.le_refl _) (by omega) rfl rfl _ rfl rfl ?_))
                intro v8 w8 h8 hb8 hi8
                have HO8 := Lib.hid h8
                have HB8 := Lib.hid hb8
                have HI8 := Lib.hid (hi8 _ _ _ HIX.out)
                clear h8 hb8 hi8
                go_wp2_with (first
                  | (go_at_call 46; refine (HUN.out _).mono ?_; rintro e w7 ⟨rfl, rfl⟩)
                  | (at_builtin; (refine wpList_app_phi rfl _ _ w2.heap.size _ (L2 ++ [(⟨#[]⟩, (g2 : Int) * u)]) (c, y * u) w2 _ _ HO8.out HB8.out (Nat.le_refl _) (by first | omega | (simp only [List.length_append, List.length_cons, List.length_nil]; omega)) rfl rfl _ rfl rfl ?_)))
                intro v6 w6 h6 hb6 hi6
                have HO6 := Lib.hid h6
                have HB6 := Lib.hid hb6
                have HI6 := Lib.hid (hi6 _ _ _ HI8.out)
                clear h6 hb6 hi6
                go_wp2
                refine ⟨⟨j + 1, 1, _, by omega, by omega, rfl, HI6.out, by rw [← HE2.out, HPA.out]; simp only [List.append_assoc, List.cons_append, List.nil_append], HO6.out, HB6.out⟩, ?_⟩
                have e1 : w6.iterPos w4.heap.size = j + 1 := by unfold World.iterPos; rw [HI6.out]
                have e2 : wr.iterPos w4.heap.size = j := by unfold World.iterPos; rw [HIT.out]
                rw [e1, e2]
                omega
              · have hgi : ¬ (0 : Int) < (g2 : Int) := by omega
                have HPA := Lib.hid (show pauP g2 u = [] by unfold pauP; rw [if_neg hg0])
                go_wp2_with (first
                  | (go_at_call 46; refine (HUN.out _).mono ?_; rintro e w7 ⟨rfl, rfl⟩)
                  | (at_builtin; (refine wpList_app_phi rfl _ _ w2.heap.size _ L2 (c, y * u) w2 _ _ HO5.out HB5.out (Nat.le_refl _) (by first | omega | (simp only [List.length_append, List.length_cons, List.length_nil]; omega)) rfl rfl _ rfl rfl ?_)))
                intro v6 w6 h6 hb6 hi6
                have HO6 := Lib.hid h6
                have HB6 := Lib.hid hb6
                have HI6 := Lib.hid (hi6 _ _ _ HIX.out)
                clear h6 hb6 hi6
                go_wp2
                refine ⟨⟨j + 1, 1, _, by omega, by omega, rfl, HI6.out, by rw [← HE2.out, HPA.out]; simp only [List.append_assoc, List.cons_append, List.nil_append], HO6.out, HB6.out⟩, ?_⟩
                have e1 : w6.iterPos w4.heap.size = j + 1 := by unfold World.iterPos; rw [HI6.out]
                have e2 : wr.iterPos w4.heap.size = j := by unfold World.iterPos; rw [HIT.out]
                rw [e1, e2]
                omega
            · have hnx := fun ty => Lib.run_next_end_at (P := Tryd.prog) wr w4.heap.size m j ty hit hjl
              rw [sigP_end c u g2 m j (by omega), List.nil_append] at heq
              have HE2 := Lib.hid heq
              have HO5 := Lib.hid hown
              have HB5 := Lib.hid hbel
              clear heq hown hbel
              go_wp2_with (fail)
              refine ⟨⟨k + 1, 3, L2, by omega, by omega, rfl, rfl, HE2.out, HO5.out, HB5.out⟩, ?_⟩
              show s.size - ((k : Int) + 1).toNat < s.size - ((k : Int)).toNat
              omega
      · have hkn : ¬ (k : Int) < (s.size : Int) := by omega
        rw [List.drop_of_length_le (by simp; omega), show sndP c u g [] = [] from rfl, List.append_nil] at heq
        have HBR := Lib.hid (HB2.out.trans (hbel.mono HB2.out.size))
        have HSZ := Lib.hid HB2.out.size
        go_wp2_with (fail)
        go_ret2
        exact ⟨_, retVIs HC.out.symm, by rw [HV.out, ← heq]; exact hown.mono HSZ.out, HBR.out⟩
end Go.Proofs.YtgnajfdcbpfdjaaDoor
