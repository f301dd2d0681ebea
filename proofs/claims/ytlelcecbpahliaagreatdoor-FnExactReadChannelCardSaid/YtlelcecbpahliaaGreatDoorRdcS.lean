/- Reading a channel's text: the model's. -/
import Derived.Test.YtlelcecbpahliaaGreatDoorRdcI
import Derived.Test.YtlelcecbpahliaaGreatDoorChnW
namespace Go.Proofs.YtlelcecbpahliaaGreatDoor
open Go.ChangeShapes Go.WideShapes Go.ChangeAt Go.RowKit Pm

set_option maxRecDepth 100000 in
set_option maxHeartbeats 4000000 in
theorem sl13read_any (s : ByteArray) (w : World) (hs : s.size ≤ 1048576) :
    Calls Tryz.prog 32 #[.string s] w (RdcRet s w) := by
  have HSP := Lib.hid (fun w' => ssplit_any s 32 w' hs)
  have hpos : 0 < (cutS 32 s).length := by rw [cutS_len]; omega
  have hle := cutS_le 32 s
  obtain ⟨ws, hws⟩ : ∃ ws, ws = cutS 32 s := ⟨_, rfl⟩
  have HWS := Lib.hid hws
  rw [← hws] at HSP hpos hle
  unfold RdcRet
  clear hws
  go_enter Tryz.func32, Tryz.ntmps32
  go_wp2_with (go_at_call 57; (refine (HSP.out _).mono ?_); rintro e w1 ⟨v1, rfl, ho, hb⟩; refine Hid.out ?_)
  refine Lib.hid ?_
  obtain ⟨g, cap, rfl, hcap, hB, hcell⟩ := words_row ho hpos
  have hgl : g < w1.heap.size := by have := hcell 0 hpos; exact World.block_lt_of_cell? _ _ this
  have HC := Lib.hid hcell
  have r0 := cell_below (a := ⟨w.heap.size, 0, none⟩) (v := .string ⟨#[]⟩) (by go_cell) hb
  have r1 := cell_below (a := ⟨w.heap.size, 1, none⟩) (v := .slice none 0 0) (by go_cell) hb
  have r2 := cell_below (a := ⟨w.heap.size, 2, none⟩) (v := .int .i64 0) (by go_cell) hb
  have g0 : w1.frozen? ⟨w.heap.size, 0, none⟩ = false := by rw [hb.frozen (by simp)]; go_simp
  have g1 : w1.frozen? ⟨w.heap.size, 1, none⟩ = false := by rw [hb.frozen (by simp)]; go_simp
  have g2 : w1.frozen? ⟨w.heap.size, 2, none⟩ = false := by rw [hb.frozen (by simp)]; go_simp
  have hgB : w.heap.size + 1 ≤ g := by simpa using hB
  have AC := Lib.hid (Below.next (a := w) (by go_grown) hb)
  obtain ⟨N, hN⟩ : ∃ N, N = ws.length := ⟨_, rfl⟩
  have HN := Lib.hid hN
  rw [← hN] at hcap hpos hle
  clear ho hb hcell HSP hB
  rw [← hN]
  clear hN
  by_cases h4 : N < 4
  · have HB := Lib.hid (show rdcB s = false from rdcB_short (by rw [← HWS.out, ← HN.out]; exact h4))
    have h4i : (N : Int) < 4 := by omega
    clear h4
    go_wp2
    refine bodyPost_ret (v := .tuple #[.agg #[.string ⟨#[]⟩, .slice none 0 0, .int .i64 0], .bool false]) (by simp [results, Tryz.results32, go_sem, *]) rfl ⟨_, by rw [rdcT_no HB.out, HB.out], by rw [rdcT_no HB.out]; exact OwnPt.empty _ _, ?_⟩
    iterate 3 (refine Below.setCell ?_ (by simp only; omega) _)
    exact AC.out
  · have h4i : ¬ (N : Int) < 4 := by omega
    obtain ⟨a, b, r, hws, hr⟩ := four_words (ws := ws) (by have := HN.out; omega)
    have HRC := Lib.hid (show cutS 32 s = a :: b :: r by rw [← HWS.out, hws])
    have HRN := Lib.hid (show N = r.length + 2 by rw [HN.out, hws]; rfl)
    have HRW := Lib.hid (fun i (hi : i < r.length) => show w1.cell? ⟨g, i + 2, none⟩ = some (.string (r.getD i ⟨#[]⟩)) by
      have := HC.out (i + 2) (by rw [hws]; simp; omega)
      rw [this, hws]; simp)
    have k0 : w1.cell? ⟨g, 0, none⟩ = some (.string a) := by have := HC.out 0 (by rw [hws]; simp); rw [this, hws]; rfl
    have k1 : w1.cell? ⟨g, 1, none⟩ = some (.string b) := by have := HC.out 1 (by rw [hws]; simp); rw [this, hws]; rfl
    have hn0 : (0 : Int) < (N : Int) := by omega
    have hn1 : (1 : Int) < (N : Int) := by omega
    have hbz : b.size ≤ maxLen := by
      have := cutS_parts (c := 32) (s := s) (x := b) (by rw [HRC.out]; simp)
      unfold maxLen; omega
    have HD := Lib.hid (fun w' => snum_any b w' hbz)
    obtain ⟨z, hz⟩ : ∃ z, z = numR b.data.toList := ⟨_, rfl⟩
    have HZ := Lib.hid hz
    obtain ⟨cb, hcb⟩ : ∃ cb, cb = canB b.data.toList := ⟨_, rfl⟩
    have HCB := Lib.hid hcb
    rw [← hz, ← hcb] at HD
    obtain ⟨W, hW⟩ : ∃ W, W = w1.alloc (.cells #[.string a, .slice none 0 0, .int .i64 z] 30) := ⟨_, rfl⟩
    have AB2 : Below w1.heap.size w1 W := hW ▸ (Below.refl _ _).alloc (Nat.le_refl _) _
    have ACW := Lib.hid (Below.next AC.out AB2)
    have hWs : W.heap.size = w1.heap.size + 1 := by rw [hW]; simp
    have X0 := Lib.hid (show ChnAt W w1.heap.size a (.slice none 0 0) z from hW ▸ ChnAt.new a _ z _ rfl)
    have XF := Lib.hid (show W.frozen? ⟨w1.heap.size, 1, none⟩ = false from by rw [hW]; go_simp)
    have RR := Lib.hid (And.intro (cell_below r0 AB2) (And.intro (cell_below r1 AB2) (cell_below r2 AB2)))
    have GG := Lib.hid (And.intro ((AB2.frozen (p := ⟨w.heap.size, 0, none⟩) (by simp only; omega)).trans g0) (And.intro ((AB2.frozen (p := ⟨w.heap.size, 1, none⟩) (by simp only; omega)).trans g1) ((AB2.frozen (p := ⟨w.heap.size, 2, none⟩) (by simp only; omega)).trans g2)))
    have HRW := Lib.hid (fun i hi => cell_below (HRW.out i hi) AB2)
    have hwsz : w.heap.size + 1 ≤ w1.heap.size := by omega
    clear AB2 r0 r1 r2 g0 g1 g2 hws HC HWS hz hcb hbz h4
    go_wp2_with (go_at_call 58; (refine (HD.out _).mono ?_); rintro e w3 ⟨rfl, rfl⟩)
    rw [← hW]
    clear hW hn0 hn1 k0 k1 HD
    go_loopw [6, 8] (fun o i wr => ∃ (k : Nat) (ok : Bool) (a' : Option Addr) (c' : Nat), k + 2 ≤ N ∧ i = .int .i64 ((k + 2 : Nat) : Int) ∧ o = .bool ok ∧ ok = (cb && (r.take k).all (fun x => (ptR x).2)) ∧ ChnAt wr w1.heap.size a (.slice a' k c') z ∧ wr.frozen? ⟨w1.heap.size, 1, none⟩ = false ∧ OwnPt wr (w1.heap.size + 1) (.slice a' k c') ((r.take k).map ptD) ∧ Below w1.heap.size W wr) (fun _ i _ => N - (intOf i).toNat)
    case atStart => exact ⟨0, cb, none, 0, by omega, rfl, rfl, by simp, X0.out, XF.out, OwnPt.empty _ _, Below.refl _ _⟩
    case round =>
      obtain ⟨k, ok, a', c', hk, rfl, rfl, hok, hx, hf, hown, hbel⟩ := hrel
      have HB := Lib.hid hbel
      have HOW := Lib.hid hown
      have HOK := Lib.hid hok
      have hos : w1.heap.size + 1 ≤ wr.heap.size := World.block_lt_of_cell? _ _ hx.1
      have ACR := Lib.hid (ACW.out.trans (HB.out.mono (by omega)))
      clear hbel hown hok
      by_cases hlt : k + 2 < N
      · have hkn : ((k + 2 : Nat) : Int) < (N : Int) := by omega
        have hkr : k < r.length := by have := HRN.out; omega
        have c0 : wr.cell? ⟨g, k + 2, none⟩ = some (.string (r.getD k ⟨#[]⟩)) := (HB.out.cell (p := ⟨g, k + 2, none⟩) (by simp only; omega)).trans (HRW.out k hkr)
        have HS2 := Lib.hid (show (r.take (k + 1)).map ptD = (r.take k).map ptD ++ [ptD (r.getD k ⟨#[]⟩)] by
          rw [List.take_succ_eq_append_getElem hkr, List.map_append]; simp [hkr])
        have HS3 := Lib.hid (show (cb && (r.take (k + 1)).all (fun x => (ptR x).2)) = (ok && (ptR (r.getD k ⟨#[]⟩)).2) by
          rw [List.take_succ_eq_append_getElem hkr, List.all_append, HOK.out]; simp [hkr, Bool.and_assoc])
        have hszx : (r.getD k ⟨#[]⟩).size ≤ 1048576 := by
          have hm : r.getD k ⟨#[]⟩ ∈ cutS 32 s := by rw [HRC.out]; simp [hkr]
          have := cutS_parts hm; omega
        have HRP := Lib.hid (fun w' => show Calls Tryz.prog 64 #[.string (r.getD k ⟨#[]⟩)] w' fun e w'' => e = .returned (.tuple #[.agg #[.int .i64 (ptD (r.getD k ⟨#[]⟩)).1, .int .i64 (ptD (r.getD k ⟨#[]⟩)).2], .bool (ptR (r.getD k ⟨#[]⟩)).2]) ∧ Below w'.heap.size w' w'' from sl02read_any (r.getD k ⟨#[]⟩) w' hszx)
        have hll : ((r.take k).map ptD).length ≤ 1048577 := by rw [List.length_map, List.length_take]; omega
        have hkl : ((r.take k).map ptD).length = k := by rw [List.length_map, List.length_take]; omega
        obtain ⟨x0, x1, x2⟩ := hx
        generalize (r.take k).map ptD = L at *
        generalize ptD (r.getD k ⟨#[]⟩) = q at *
        generalize (ptR (r.getD k ⟨#[]⟩)).2 = qb at *
        generalize r.getD k ⟨#[]⟩ = x at *
        obtain ⟨px, py⟩ := q
        simp only at HRP
        clear hszx hkr
        go_wp2_with (go_at_call 64; (refine (HRP.out _).mono ?_); rintro e w4 ⟨rfl, hb⟩; refine Hid.out ?_)
        refine Lib.hid ?_
        have ab := (Below.refl w4.heap.size w4).alloc (Nat.le_refl _) (.cells #[.int .i64 px, .int .i64 py] 44)
        have y0 := cell_below (cell_below x0 hb) ab
        have y1 := cell_below (cell_below x1 hb) ab
        have y2 := cell_below (cell_below x2 hb) ab
        have yf := (ab.frozen (p := ⟨w1.heap.size, 1, none⟩) (by have := hb.size; simp only; omega)).trans ((hb.frozen (p := ⟨w1.heap.size, 1, none⟩) (by simp only; omega)).trans hf)
        have OA := Lib.hid ((HOW.out.below hb).below ab)
        have BA := Lib.hid ((HB.out.trans (hb.mono (by omega))).trans (ab.mono (by have := hb.size; omega)))
        have hos2 : w1.heap.size + 1 ≤ (w4.alloc (.cells #[.int .i64 px, .int .i64 py] 44)).heap.size := by have := hb.size; simp; omega
        clear hb ab c0 hf x0 x1 x2
        cases ok <;> cases qb
        all_goals
          go_wp2_with (at_builtin; (refine wpList_app_pt rfl _ _ (w1.heap.size + 1) (.slice a' k c') L px py _ _ OA.out hos2 hll rfl rfl _ (by simp) rfl ?_))
          intro v' w' h1 h2
          obtain ⟨a2, c2', rfl⟩ := h1.form
          have z0 := (h2.cell (p := ⟨w1.heap.size, 0, none⟩) (by simp)).trans y0
          have z1 := (h2.cell (p := ⟨w1.heap.size, 1, none⟩) (by simp)).trans y1
          have z2 := (h2.cell (p := ⟨w1.heap.size, 2, none⟩) (by simp)).trans y2
          have zf := (h2.frozen (p := ⟨w1.heap.size, 1, none⟩) (by simp)).trans yf
          have hz := Lib.hid h1
          have ZB := Lib.hid (BA.out.trans (h2.mono (by omega)))
          rw [show (L ++ [(px, py)]).length = k + 1 by simp [hkl]] at hz ⊢
          clear h1 h2 y0 y1 y2 yf
          go_wp2
          go_roundw
          case rel => exact ⟨k + 1, _, a2, c2', by omega, by go_num, rfl, by rw [HS3.out]; rfl, ⟨by go_cell, by go_cell, by go_cell⟩, by rw [World.frozen?_setCell]; exact zf, by rw [HS2.out]; exact hz.out.put (by simp) _, ZB.out.setCell (p := ⟨w1.heap.size, 1, none⟩) (Nat.le_refl _) _⟩
          case measure => simp [intOf]; omega
      · have HKN := Lib.hid (show k = r.length by have := HRN.out; omega)
        have hkN : ¬ ((k + 2 : Nat) : Int) < (N : Int) := by omega
        have HE := Lib.hid (show (r.take k).map ptD = r.map ptD by rw [List.take_of_length_le (by have := HKN.out; omega)])
        rw [HE.out] at HOW
        have HOK := Lib.hid (show ok = (cb && r.all (fun x => (ptR x).2)) by rw [HOK.out, List.take_of_length_le (by have := HKN.out; omega)])
        have hnm : a.size ≤ maxLen := by
          have := cutS_parts (c := 32) (s := s) (x := a) (by rw [HRC.out]; simp)
          unfold maxLen; omega
        have hml : (r.map ptD).length ≤ 1048576 := by rw [List.length_map]; have := HRN.out; omega
        have HT := Lib.hid (sokchn_any w1.heap.size a z (.slice a' k c') (r.map ptD) wr hnm hml (OwnPt.pts HOW.out hml) hx)
        have HRB := Lib.hid (rdcB_eq HRC.out hr)
        rw [← HZ.out, ← HCB.out] at HRB
        have HVY := Lib.hid (fun h => rdcT_yes HRC.out h)
        rw [← HZ.out] at HVY
        obtain ⟨x0, x1, x2⟩ := hx
        have r0 := (HB.out.cell (p := ⟨w.heap.size, 0, none⟩) (by simp only; omega)).trans RR.out.1
        have r1 := (HB.out.cell (p := ⟨w.heap.size, 1, none⟩) (by simp only; omega)).trans RR.out.2.1
        have r2 := (HB.out.cell (p := ⟨w.heap.size, 2, none⟩) (by simp only; omega)).trans RR.out.2.2
        have g0 := (HB.out.frozen (p := ⟨w.heap.size, 0, none⟩) (by simp only; omega)).trans GG.out.1
        have g1 := (HB.out.frozen (p := ⟨w.heap.size, 1, none⟩) (by simp only; omega)).trans GG.out.2.1
        have g2 := (HB.out.frozen (p := ⟨w.heap.size, 2, none⟩) (by simp only; omega)).trans GG.out.2.2
        have HRB := Lib.hid (show rdcB s = (ok && okC a (r.map ptD) z) by rw [HRB.out, HOK.out, Bool.and_assoc])
        obtain ⟨L, hL⟩ : ∃ L, L = r.map ptD := ⟨_, rfl⟩
        rw [← hL] at HT HRB HVY HOW
        clear hL HE hlt HRW HOK
        cases ok
        · have HB0 := Lib.hid (show rdcB s = false by rw [HRB.out]; rfl)
          clear HT HVY HRB
          go_wp2
          refine bodyPost_ret (v := .tuple #[.agg #[.string ⟨#[]⟩, .slice none 0 0, .int .i64 0], .bool false]) (by simp [results, Tryz.results32, go_sem, *]) rfl ⟨_, by rw [rdcT_no HB0.out, HB0.out], by rw [rdcT_no HB0.out]; exact OwnPt.empty _ _, ?_⟩
          iterate 3 (refine Below.setCell ?_ (by simp only; omega) _)
          exact ACR.out
        · rw [Bool.true_and] at HRB
          rw [← HRB.out] at HT
          cases hrb : rdcB s
          all_goals
            have HB0 := Lib.hid hrb
            rw [hrb] at HT
            go_wp2_with (go_at_call 65; (refine HT.out.mono ?_); rintro e w6 ⟨rfl, hb⟩; refine Hid.out ?_)
            refine Lib.hid ?_
            have AC6 := Lib.hid (Below.next ACR.out hb)
            replace x0 := cell_below x0 hb
            replace x1 := cell_below x1 hb
            replace x2 := cell_below x2 hb
            replace r0 := cell_below r0 hb
            replace r1 := cell_below r1 hb
            replace r2 := cell_below r2 hb
            replace g0 := (hb.frozen (p := ⟨w.heap.size, 0, none⟩) (by simp only; omega)).trans g0
            replace g1 := (hb.frozen (p := ⟨w.heap.size, 1, none⟩) (by simp only; omega)).trans g1
            replace g2 := (hb.frozen (p := ⟨w.heap.size, 2, none⟩) (by simp only; omega)).trans g2
            have OO := Lib.hid ((HOW.out.below hb).mono (B' := w.heap.size + 1) (by omega))
            have hne : w1.heap.size ≠ w.heap.size := by omega
            clear hb HT HOW hrb
          · clear HVY HRB
            go_wp2
            refine bodyPost_ret (v := .tuple #[.agg #[.string ⟨#[]⟩, .slice none 0 0, .int .i64 0], .bool false]) (by simp [results, Tryz.results32, go_sem, *]) rfl ⟨_, by rw [rdcT_no HB0.out, HB0.out], by rw [rdcT_no HB0.out]; exact OwnPt.empty _ _, ?_⟩
            iterate 3 (refine Below.setCell ?_ (by simp only; omega) _)
            exact AC6.out
          · have HV := Lib.hid (HVY.out HB0.out)
            clear HVY HRB
            go_wp2
            refine bodyPost_ret (v := .tuple #[.agg #[.string a, .slice a' k c', .int .i64 z], .bool true]) (by simp [results, Tryz.results32, go_sem, *]) rfl ⟨_, by rw [HV.out, HB0.out], ?_, ?_⟩
            · rw [HV.out]
              refine OwnPt.mono (B := w.heap.size + 1) ?_ (by omega)
              iterate 3 (refine OwnPt.put ?_ (by simp only; omega) _)
              exact OO.out
            · iterate 3 (refine Below.setCell ?_ (by simp only; omega) _)
              exact AC6.out
def RdcR (S : ByteArray) (L : Pts) (Z : Int) (B : Bool) (w : World) (e : Ending) (w' : World) : Prop :=
  ∃ v, e = .returned (.tuple #[.agg #[.string S, v, .int .i64 Z], .bool B]) ∧ OwnPt w' w.heap.size v L ∧ Below w.heap.size w w'
theorem sreadchn_any (s : ByteArray) (w : World) (hs : s.size ≤ 1048576) :
    Calls Tryz.prog 11 #[.string s] w (RdcR (rdcT s).1 (rdcT s).2.1 (rdcT s).2.2 (rdcB s) w) := by
  have HR := Lib.hid (fun w' => show Calls Tryz.prog 32 #[.string s] w' (RdcR (rdcT s).1 (rdcT s).2.1 (rdcT s).2.2 (rdcB s) w') from sl13read_any s w' hs)
  generalize (rdcT s).1 = S at *
  generalize (rdcT s).2.1 = L at *
  generalize (rdcT s).2.2 = Z at *
  generalize rdcB s = B at *
  go_enter Tryz.func11, Tryz.ntmps11
  go_wp2_with (go_at_call 32; (refine (HR.out _).mono ?_); rintro e w1 ⟨v, rfl, ho, hb⟩; refine Hid.out ?_)
  refine Lib.hid ?_
  have ho2 : OwnPt w1 (w.heap.size + 1) v L := OwnPt.mono ho (by simp)
  obtain ⟨a1, n1, rfl⟩ := ho2.form
  have HO := Lib.hid ho2
  have r0 := cell_below (a := ⟨w.heap.size, 0, none⟩) (v := .string ⟨#[]⟩) (by go_cell) hb
  have r1 := cell_below (a := ⟨w.heap.size, 1, none⟩) (v := .slice none 0 0) (by go_cell) hb
  have r2 := cell_below (a := ⟨w.heap.size, 2, none⟩) (v := .int .i64 0) (by go_cell) hb
  have g0 : w1.frozen? ⟨w.heap.size, 0, none⟩ = false := by rw [hb.frozen (by simp)]; go_simp
  have g1 : w1.frozen? ⟨w.heap.size, 1, none⟩ = false := by rw [hb.frozen (by simp)]; go_simp
  have g2 : w1.frozen? ⟨w.heap.size, 2, none⟩ = false := by rw [hb.frozen (by simp)]; go_simp
  have AC := Lib.hid (Below.next (a := w) (by go_grown) hb)
  clear ho ho2 hb HR
  go_wp2
  refine bodyPost_ret (v := .tuple #[.agg #[.string S, .slice a1 L.length n1, .int .i64 Z], .bool B]) (by simp [results, Tryz.results11, go_sem, *]) rfl ⟨_, rfl, ?_, ?_⟩
  · refine OwnPt.mono (B := w.heap.size + 1) ?_ (by omega)
    iterate 3 (refine OwnPt.put ?_ (by simp only; omega) _)
    exact HO.out
  · iterate 3 (refine Below.setCell ?_ (by simp only; omega) _)
    exact AC.out
end Go.Proofs.YtlelcecbpahliaaGreatDoor
