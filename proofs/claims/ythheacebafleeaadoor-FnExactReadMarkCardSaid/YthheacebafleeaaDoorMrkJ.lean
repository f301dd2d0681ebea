/- Reading marks: the program's. -/
import Derived.Test.YthheacebafleeaaDoorMrkL
namespace Go.Proofs.YthheacebafleeaaDoor
open Go.ChangeShapes Go.WideShapes Go.ChangeAt Go.RowKit Pm

theorem readlook_any (ps : List ByteArray) (v : Int) (g cap : Nat) (w : World) (hM : MarksAt w) (hs : ∀ p ∈ ps, p.size ≤ maxLen) (hv : NamedIs (ps.getD 0 ByteArray.empty) v)
    (hc : ∀ j, j < ps.length → w.cell? ⟨g, j, none⟩ = some (.string (ps.getD j ByteArray.empty))) :
    Calls Tryd.prog 52 #[.slice (some ⟨g, 0, none⟩) ps.length cap] w fun e w' => e = .returned (lookM ps (nmA v)).val ∧ Below w.heap.size w w' := by
  by_cases h4 : ps.length = 4
  · match ps, h4 with
    | [p0, p1, p2, p3], _ =>
      exact readlook_yes g cap p0 p1 p2 p3 v w hM (hs p0 (by simp)) hv (hc 0 (by simp)) (hc 1 (by simp)) (hc 2 (by simp)) (hc 3 (by simp))
  · rw [look_no h4]
    exact readlook_no _ _ _ w h4
theorem cut_sizes {s : ByteArray} (hs : s.size ≤ 1048576) : ∀ p ∈ cutS 32 s, p.size ≤ maxLen := fun p hp => by
  have := cutS_part 32 s p hp
  unfold maxLen; omega
theorem zret {a b : Value} {x y : Bool} (h1 : a = b) (h2 : x = y) : Ending.returned (.tuple #[a, .bool x]) = .returned (.tuple #[b, .bool y]) := by rw [h1, h2]
set_option maxRecDepth 100000 in
set_option maxHeartbeats 4000000 in
theorem readmark_any (s : ByteArray) (v : Int) (w : World) (hM : MarksAt w) (hS : SpaceAt w) (hL : LenAt w) (hs : s.size ≤ 1048576) (hv : NamedIs (firstW s) v) :
    Calls Tryd.prog 32 #[.string s] w fun e w' => e = .returned (.tuple #[(rdK s v).val, .bool (rdB s v)]) ∧ Below w.heap.size w w' := by
  have hlen := cutS_len 32 s
  have hpos : 0 < (cutS 32 s).length := by rw [hlen]; omega
  have HSP := Lib.hid (fun w' (hb : Below w.heap.size w w') => split_any s 32 w' hs (hL.below hb))
  have HRL := fun g cap w' (hb : Below w.heap.size w w') hc => readlook_any (cutS 32 s) v g cap w' (hM.below hb) (cut_sizes hs) hv hc
  obtain ⟨hq, hq1, hq2⟩ := imp_is s v (named_le hv)
  have HV := fun w' (hb : Below w.heap.size w w') => validmark_any (impM s v).k (impM s v).c (impM s v).s (impM s v).t w' (hM.below hb) (hS.below hb)
  have HT := fun w' (hb : Below w.heap.size w w') => marktext_any (impM s v).k (impM s v).c (impM s v).s (impM s v).t w' (hM.below hb) (hS.below hb)
  unfold mkV at HV
  have him : lookM (cutS 32 s) (nmA v) = impM s v := rfl
  rw [him] at HRL
  unfold Mk.val at HRL ⊢
  generalize mkOk (impM s v).k (impM s v).c (impM s v).s (impM s v).t = ok at *
  generalize markText (impM s v).k (impM s v).c (impM s v).s (impM s v).t = tx at *
  have HQ1 := Lib.hid hq1
  have HQ2 := Lib.hid hq2
  obtain ⟨m, hm⟩ : ∃ m, m = impM s v := ⟨_, rfl⟩
  rw [← hm] at HRL HV HT
  have HM := Lib.hid hm
  obtain ⟨k, c, h, t⟩ := m
  simp only at HRL HV HT
  obtain ⟨n, hn⟩ : ∃ n, n = (cutS 32 s).length := ⟨_, rfl⟩
  rw [← hn] at HRL hpos
  have HN := Lib.hid hn
  have HC := Lib.hid (fun (w' : World) (u : Value) (B : Nat) (ho : w'.ownsRow B 9 1 u n (strV (cutS 32 s))) (g cap : Nat) (hu : u = .slice (some ⟨g, 0, none⟩) n cap) => (show ∀ j, j < n → w'.cell? ⟨g, j, none⟩ = some (.string ((cutS 32 s).getD j ByteArray.empty)) from fun j hj => by
    subst hu
    have hc := ho.cellAt j (by omega)
    rw [show (strV (cutS 32 s))[j]? = some (.string ((cutS 32 s).getD j ByteArray.empty)) by
      have hj2 : j < (cutS 32 s).length := by rw [← HN.out]; exact hj
      simp [strV, hj2, List.getD]] at hc
    simpa using hc))
  replace HRL := Lib.hid HRL
  replace HV := HV
  have HTS := Lib.hid (bytes_beq tx s)
  have HSP2 := Lib.hid (fun w' (hb : Below w.heap.size w w') => (show Calls Tryd.prog 53 #[.string s, .string ⟨#[32]⟩] w' fun e w'' => ∃ g cap, e = .returned (.slice (some ⟨g, 0, none⟩) n cap) ∧ (∀ j, j < n → w''.cell? ⟨g, j, none⟩ = some (.string ((cutS 32 s).getD j ByteArray.empty))) ∧ Below w'.heap.size w' w'' from by
    refine (HSP.out w' hb).mono ?_
    rintro e w'' ⟨u, rfl, ho, hb2⟩
    rw [strV_len, ← HN.out] at ho
    obtain ⟨g, cap, rfl, _, _⟩ := ho.form hpos
    exact ⟨g, cap, rfl, HC.out _ _ _ ho _ _ rfl, hb2⟩))
  clear hM hS hL hs hv hlen hpos hq1 hq2 hm hn HSP HC him
  have hres : ∀ b : Bool, (ok && (tx.toList == s.toList)) = b → rdB s v = b := fun b e => by rw [← hq, e]
  have HRES := Lib.hid hres
  clear hq hres
  cases ok
  case' true => cases hts : (tx.toList == s.toList)
  case' true.false => have hbn : (tx.toList != s.toList) = true := by rw [bne, hts]; rfl
  case' true.true => have hbn : (tx.toList != s.toList) = false := by rw [bne, hts]; rfl
  all_goals
    replace HV := Lib.hid HV
    replace HT := Lib.hid HT
    go_enter Tryd.func32, Tryd.ntmps32
    go_wp2_with (go_at_call 53; (refine (HSP2.out _ (by go_grown)).mono ?_); rintro e w1 ⟨g, cap, rfl, hc, hb⟩; refine Hid.out ?_)
    refine Lib.hid ?_
    have d0 : w1.cell? ⟨w.heap.size, 0, none⟩ = some (.int .i64 0) := cell_below (by simp) hb
    have d1 : w1.cell? ⟨w.heap.size, 1, none⟩ = some (.string ⟨#[]⟩) := cell_below (by simp) hb
    have d2 : w1.cell? ⟨w.heap.size, 2, none⟩ = some (.string ⟨#[]⟩) := cell_below (by simp) hb
    have d3 : w1.cell? ⟨w.heap.size, 3, none⟩ = some (.string ⟨#[]⟩) := cell_below (by simp) hb
    have g0 : w1.frozen? ⟨w.heap.size, 0, none⟩ = false := zfrozen_below (by simp) (by first | (simp; done) | (simp; omega)) hb
    have g1 : w1.frozen? ⟨w.heap.size, 1, none⟩ = false := zfrozen_below (by simp) (by first | (simp; done) | (simp; omega)) hb
    have g2 : w1.frozen? ⟨w.heap.size, 2, none⟩ = false := zfrozen_below (by simp) (by first | (simp; done) | (simp; omega)) hb
    have g3 : w1.frozen? ⟨w.heap.size, 3, none⟩ = false := zfrozen_below (by simp) (by first | (simp; done) | (simp; omega)) hb
    have AC := Lib.hid (Below.next (a := w) (by go_grown) hb)
    have hz1 : w.heap.size < w1.heap.size := by have hh := hb.size; first | omega | (simp at hh; omega)
    have HCC := Lib.hid hc
    clear hb hc
    go_wp2_with (go_at_call 52; (refine (HRL.out g cap _ AC.out HCC.out).mono ?_); rintro e w2 ⟨rfl, hb⟩; refine Hid.out ?_)
    refine Lib.hid ?_
    replace d0 := cell_below d0 hb
    replace g0 := zfrozen_below g0 hz1 hb
    replace d1 := cell_below d1 hb
    replace g1 := zfrozen_below g1 hz1 hb
    replace d2 := cell_below d2 hb
    replace g2 := zfrozen_below g2 hz1 hb
    replace d3 := cell_below d3 hb
    replace g3 := zfrozen_below g3 hz1 hb
    replace AC := Lib.hid (Below.next AC.out hb)
    have hz2 : w.heap.size < w2.heap.size := Nat.lt_of_lt_of_le hz1 hb.size
    clear hb hz1
    go_wp2_with (go_at_call 21; (refine (HV.out _ (AC.out.alloc AC.out.size _)).mono ?_); rintro e w3 ⟨rfl, hb⟩; refine Hid.out ?_)
    refine Lib.hid ?_
    replace d0 := cell_below (a := ⟨w.heap.size, 0, none⟩) (v := .int .i64 0) (by go_cell) hb
    replace g0 := zfrozen_below (a := ⟨w.heap.size, 0, none⟩) (by go_simp) (by first | (simp; done) | (simp; omega)) hb
    replace d1 := cell_below (a := ⟨w.heap.size, 1, none⟩) (v := .string ⟨#[]⟩) (by go_cell) hb
    replace g1 := zfrozen_below (a := ⟨w.heap.size, 1, none⟩) (by go_simp) (by first | (simp; done) | (simp; omega)) hb
    replace d2 := cell_below (a := ⟨w.heap.size, 2, none⟩) (v := .string ⟨#[]⟩) (by go_cell) hb
    replace g2 := zfrozen_below (a := ⟨w.heap.size, 2, none⟩) (by go_simp) (by first | (simp; done) | (simp; omega)) hb
    replace d3 := cell_below (a := ⟨w.heap.size, 3, none⟩) (v := .string ⟨#[]⟩) (by go_cell) hb
    replace g3 := zfrozen_below (a := ⟨w.heap.size, 3, none⟩) (by go_simp) (by first | (simp; done) | (simp; omega)) hb
    have m0 : w3.cell? ⟨w2.heap.size, 0, none⟩ = some (.int .i64 k) := cell_below (by simp) hb
    have m1 : w3.cell? ⟨w2.heap.size, 1, none⟩ = some (.string c) := cell_below (by simp) hb
    have m2 : w3.cell? ⟨w2.heap.size, 2, none⟩ = some (.string h) := cell_below (by simp) hb
    have m3 : w3.cell? ⟨w2.heap.size, 3, none⟩ = some (.string t) := cell_below (by simp) hb
    replace AC := Lib.hid (Below.next (AC.out.alloc AC.out.size (.cells #[.int .i64 k, .string c, .string h, .string t] 28)) hb)
    have hz3 : w.heap.size < w3.heap.size := by have hh := hb.size; first | omega | (simp at hh; omega)
    have hz4 : w2.heap.size < w3.heap.size := by have hh := hb.size; first | omega | (simp at hh; omega)
    clear hb
    first
      | (go_wp2_with (go_at_call 30; (refine (HT.out _ AC.out).mono ?_); rintro e w4 ⟨rfl, hb⟩; refine Hid.out ?_)
         refine Lib.hid ?_
         replace d0 := cell_below d0 hb
         replace g0 := zfrozen_below g0 hz3 hb
         replace d1 := cell_below d1 hb
         replace g1 := zfrozen_below g1 hz3 hb
         replace d2 := cell_below d2 hb
         replace g2 := zfrozen_below g2 hz3 hb
         replace d3 := cell_below d3 hb
         replace g3 := zfrozen_below g3 hz3 hb
         replace m0 := cell_below m0 hb
         replace m1 := cell_below m1 hb
         replace m2 := cell_below m2 hb
         replace m3 := cell_below m3 hb
         replace AC := Lib.hid (Below.next AC.out hb)
         clear hb
         go_wp2)
      | go_wp2
    first
      | (refine bodyPost_ret (v := .tuple #[.agg #[.int .i64 0, .string ⟨#[]⟩, .string ⟨#[]⟩, .string ⟨#[]⟩], .bool false]) (by simp [results, Tryd.results32, go_sem, *]) rfl ⟨zret (by rw [HQ2.out (HRES.out false rfl)]; rfl) (HRES.out false rfl).symm, ?_⟩; (repeat (refine Below.setCell ?_ (by exact Nat.le_refl _) _)); exact AC.out)
      | (refine bodyPost_ret (v := .tuple #[.agg #[.int .i64 0, .string ⟨#[]⟩, .string ⟨#[]⟩, .string ⟨#[]⟩], .bool false]) (by simp [results, Tryd.results32, go_sem, *]) rfl ⟨zret (by rw [HQ2.out (HRES.out false (by rw [hts]; rfl))]; rfl) (HRES.out false (by rw [hts]; rfl)).symm, ?_⟩; (repeat (refine Below.setCell ?_ (by exact Nat.le_refl _) _)); exact AC.out)
      | (refine bodyPost_ret (v := .tuple #[.agg #[.int .i64 k, .string c, .string h, .string t], .bool true]) (by simp [results, Tryd.results32, go_sem, *]) rfl ⟨zret (by rw [← HQ1.out (HRES.out true (by rw [hts]; rfl)), ← HM.out]) (HRES.out true (by rw [hts]; rfl)).symm, ?_⟩; (repeat (refine Below.setCell ?_ (by exact Nat.le_refl _) _)); exact AC.out)
end Go.Proofs.YthheacebafleeaaDoor
