/- Reading a channel's text: the program's. -/
import Derived.Test.YtlelcecbpahliaaGreatDoorRdcM
import Derived.Test.YtlelcecbpahliaaGreatDoorCtxI
import Derived.Test.YtlelcecbpahliaaGreatDoorRbk
import Derived.Test.YtlelcecbpahliaaGreatDoorRevP
import Derived.Test.YtlelcecbpahliaaGreatDoorLReadPoint
namespace Go.Proofs.YtlelcecbpahliaaGreatDoor
open Go.ChangeShapes Go.WideShapes Go.ChangeAt Go.RowKit Pm

/-- What a text is read as: name, line, width. -/
def rdcT (s : ByteArray) : ByteArray × Pts × Int := if rdcB s then (match cutS 32 s with | a :: b :: r => (a, r.map ptD, numR b.data.toList) | _ => (⟨#[]⟩, [], 0)) else (⟨#[]⟩, [], 0)
theorem rdcT_no {s : ByteArray} (h : rdcB s = false) : rdcT s = (⟨#[]⟩, [], 0) := by unfold rdcT; rw [h]; rfl
theorem rdcT_yes {s a b : ByteArray} {r : List ByteArray} (hc : cutS 32 s = a :: b :: r) (h : rdcB s = true) : rdcT s = (a, r.map ptD, numR b.data.toList) := by unfold rdcT; rw [h, hc]; rfl
def RdcRet (s : ByteArray) (w : World) (e : Ending) (w' : World) : Prop :=
  ∃ v, e = .returned (.tuple #[.agg #[.string (rdcT s).1, v, .int .i64 (rdcT s).2.2], .bool (rdcB s)]) ∧ OwnPt w' w.heap.size v (rdcT s).2.1 ∧ Below w.heap.size w w'
theorem words_row {w : World} {B : Nat} {v : Value} {ws : List ByteArray} (h : w.ownsRow B 9 1 v (strV ws).length (strV ws)) (h0 : 0 < ws.length) : ∃ g cap, v = .slice (some ⟨g, 0, none⟩) ws.length cap ∧ ws.length ≤ cap ∧ B ≤ g ∧ ∀ i, i < ws.length → w.cell? ⟨g, i, none⟩ = some (.string (ws.getD i ⟨#[]⟩)) := by
  have hl : (strV ws).length = ws.length := by simp [strV]
  rw [hl] at h
  rcases h.2 with ⟨_, hz⟩ | ⟨g, cap, cur, e, hB, _, h6, _⟩
  · exact absurd hz (by omega)
  · subst e
    refine ⟨g, cap, rfl, h6, hB, fun i hi => ?_⟩
    rw [World.ownsRow.cellAt h i (by omega)]
    simp [strV, hi]
theorem cutS_parts {c : UInt8} {s x : ByteArray} (h : x ∈ cutS c s) : x.size ≤ s.size := by
  unfold cutS at h
  obtain ⟨l, hl, rfl⟩ := List.mem_map.1 h
  have := cutAt_parts c s.data.toList l hl
  have h2 : (⟨l.toArray⟩ : ByteArray).size = l.length := by simp [ByteArray.size]
  rw [h2]; simpa using this
theorem four_words {ws : List ByteArray} (h : 4 ≤ ws.length) : ∃ a b r, ws = a :: b :: r ∧ 2 ≤ r.length := by
  match ws, h with
  | a :: b :: r, h => exact ⟨a, b, r, rfl, by simp at h; omega⟩
set_option maxRecDepth 100000 in
set_option maxHeartbeats 4000000 in
theorem readchn_any (s : ByteArray) (w : World) (hs : s.size ≤ 1048576) (hL : LenAt w) (hP : PowAt w) (hE : ErrsAt w) :
    Calls Tryz.prog 12 #[.string s] w (RdcRet s w) := by
  have HL := Lib.hid hL
  have HPW := Lib.hid hP
  have HER := Lib.hid hE
  have HSP := Lib.hid (fun w' (h : LenAt w') => split_any s 32 w' hs h)
  have hpos : 0 < (cutS 32 s).length := by rw [cutS_len]; omega
  have hle := cutS_le 32 s
  obtain ⟨ws, hws⟩ : ∃ ws, ws = cutS 32 s := ⟨_, rfl⟩
  have HWS := Lib.hid hws
  rw [← hws] at HSP hpos hle
  unfold RdcRet
  clear hws hL hP hE
  go_enter Tryz.func12, Tryz.ntmps12
  go_wp2_with (go_at_call 26; (refine (HSP.out _ (HL.out.below (by go_grown))).mono ?_); rintro e w1 ⟨v1, rfl, ho, hb⟩; refine Hid.out ?_)
  refine Lib.hid ?_
  obtain ⟨g, cap, rfl, hcap, hB, hcell⟩ := words_row ho hpos
  have hgl : g < w1.heap.size := by have := hcell 0 hpos; exact World.block_lt_of_cell? _ _ this
  have HC := Lib.hid hcell
  have r0 := cell_below (a := ⟨w.heap.size, 0, none⟩) (v := .string ⟨#[]⟩) (by go_cell) hb
  have r1 := cell_below (a := ⟨w.heap.size, 1, none⟩) (v := .slice none 0 0) (by go_cell) hb
  have r2 := cell_below (a := ⟨w.heap.size, 2, none⟩) (v := .int .i64 0) (by go_cell) hb
  have g0 : w1.frozen? ⟨w.heap.size, 0, none⟩ = false := by rw [hb.frozen (by simp)]; go_simp
  have g1 : w1.frozen? ⟨w.heap.size, 1, none⟩ = false := by rw [hb.frozen (by simp)]; go_simp
  have g2 : w1.frozen? ⟨w.heap.size, 2, none⟩ = false := by rw [hb.frozen (by simp)]; go_simp
  have hgB : w.heap.size + 1 ≤ g := by simpa using hB
  have AC := Lib.hid (Below.next (a := w) (by go_grown) hb)
  obtain ⟨N, hN⟩ : ∃ N, N = ws.length := ⟨_, rfl⟩
  have HN := Lib.hid hN
  rw [← hN] at hcap hpos hle
  clear ho hb hcell HSP hB
  rw [← hN]
  clear hN
  have ABL := Lib.hid (Below.alloc (Below.refl w1.heap.size w1) (Nat.le_refl _) (.cells #[Value.int .i64 (N : Int)] 3))
  have HW := Lib.hid (within_int 4 14 _ [(N : Int)] _ (show IntsAre .i64 (w1.alloc (.cells #[Value.int .i64 (N : Int)] 3)) (.slice (some ⟨w1.heap.size, 0, none⟩) 1 1) [(N : Int)] from ints_one w1 .i64 (N : Int) 3))
  have e0 := cell_below r0 ABL.out
  have e1 := cell_below r1 ABL.out
  have e2 := cell_below r2 ABL.out
  have h0 := (ABL.out.frozen (p := ⟨w.heap.size, 0, none⟩) (by simp only; omega)).trans g0
  have h1 := (ABL.out.frozen (p := ⟨w.heap.size, 1, none⟩) (by simp only; omega)).trans g1
  have h2 := (ABL.out.frozen (p := ⟨w.heap.size, 2, none⟩) (by simp only; omega)).trans g2
  cases hin : inB 4 14 [(N : Int)]
  · have HB := Lib.hid (show rdcB s = false from by
      have hh : ¬ (4 ≤ (N : Int) ∧ (N : Int) ≤ 14) := by
        intro hh; simp [inB, hh] at hin
      by_cases h4 : N < 4
      · exact rdcB_short (by rw [← HWS.out, ← HN.out]; exact h4)
      · exact rdcB_long (by rw [← HWS.out, ← HN.out]; omega))
    rw [hin] at HW
    clear hin HWS
    go_wp2_with (go_at_call 33; (refine HW.out.mono ?_); rintro e w2 ⟨rfl, rfl⟩)
    refine bodyPost_ret (v := .tuple #[.agg #[.string ⟨#[]⟩, .slice none 0 0, .int .i64 0], .bool false]) (by simp [results, Tryz.results12, go_sem, *]) rfl ⟨_, by rw [rdcT_no HB.out, HB.out], by rw [rdcT_no HB.out]; exact OwnPt.empty _ _, ?_⟩
    iterate 3 (refine Below.setCell ?_ (by simp only; omega) _)
    exact AC.out.alloc AC.out.size _
  · obtain ⟨h4, h14⟩ : 4 ≤ (N : Int) ∧ (N : Int) ≤ 14 := by simpa [inB] using hin
    obtain ⟨a, b, r, hws, hrl⟩ := four_words (ws := ws) (by have := HN.out; omega)
    have HRC := Lib.hid (show cutS 32 s = a :: b :: r by rw [← HWS.out, hws])
    have HRN := Lib.hid (show N = r.length + 2 by rw [HN.out, hws]; rfl)
    have HRW := Lib.hid (fun i (hi : i < r.length) => show w1.cell? ⟨g, i + 2, none⟩ = some (.string (r.getD i ⟨#[]⟩)) by
      have := HC.out (i + 2) (by rw [hws]; simp; omega)
      rw [this, hws]; simp)
    rw [hin] at HW
    have hcap2 : ¬ cap = 2 := by omega
    have k0 : w1.cell? ⟨g, 0, none⟩ = some (.string a) := by have := HC.out 0 (by rw [hws]; simp); rw [this, hws]; rfl
    have k1 : w1.cell? ⟨g, 1, none⟩ = some (.string b) := by have := HC.out 1 (by rw [hws]; simp); rw [this, hws]; rfl
    have l0 := cell_below k0 ABL.out
    have l1 := cell_below k1 ABL.out
    have hn0 : (0 : Int) < (N : Int) := by omega
    have hn1 : (1 : Int) < (N : Int) := by omega
    clear r0 r1 r2 g0 g1 g2 k0 k1 hin hws HC HWS
    obtain ⟨W, hW⟩ : ∃ W, W = (w1.alloc (.cells #[Value.int .i64 (N : Int)] 3)).alloc (.cells #[.string a, .slice none 0 0, .int .i64 0] 30) := ⟨_, rfl⟩
    have AB2 : Below (w1.alloc (.cells #[Value.int .i64 (N : Int)] 3)).heap.size (w1.alloc (.cells #[Value.int .i64 (N : Int)] 3)) W := hW ▸ (Below.refl _ _).alloc (Nat.le_refl _) _
    have ACW := Lib.hid (Below.next (AC.out.alloc AC.out.size _) AB2)
    have hWs : W.heap.size = w1.heap.size + 2 := by rw [hW]; simp
    have X0 := Lib.hid (show ChnAt W (w1.heap.size + 1) a (.slice none 0 0) 0 from hW ▸ ChnAt.new a _ 0 _ (by simp))
    have XF := Lib.hid (show ∀ j, W.frozen? ⟨w1.heap.size + 1, j, none⟩ = false from fun j => by rw [hW]; go_simp)
    have RR := Lib.hid (And.intro (cell_below e0 AB2) (And.intro (cell_below e1 AB2) (cell_below e2 AB2)))
    have GG := Lib.hid (And.intro ((AB2.frozen (p := ⟨w.heap.size, 0, none⟩) (by simp; omega)).trans h0) (And.intro ((AB2.frozen (p := ⟨w.heap.size, 1, none⟩) (by simp; omega)).trans h1) ((AB2.frozen (p := ⟨w.heap.size, 2, none⟩) (by simp; omega)).trans h2)))
    have HRW := Lib.hid (fun i hi => cell_below (cell_below (HRW.out i hi) ABL.out) AB2)
    have m1 : ((w1.alloc (.cells #[Value.int .i64 (N : Int)] 3)).alloc (.cells #[.string a, .slice none 0 0, .int .i64 0] 30)).cell? ⟨g, 1, none⟩ = some (.string b) := cell_below l1 ((Below.refl _ _).alloc (Nat.le_refl _) _)
    have HD := Lib.hid (fun w' h1 h2 => readdec_any b w' (by have := cutS_parts (c := 32) (s := s) (x := b) (by rw [HRC.out]; simp); omega) h1 h2)
    clear AB2
    go_wp2_with (first
      | (go_at_call 33; (refine HW.out.mono ?_); rintro e w2 ⟨rfl, rfl⟩)
      | (go_at_call 34; rw [← hW]; (refine (HD.out _ (HPW.out.below ACW.out) (HER.out.below ACW.out)).mono ?_); rintro e w3 ⟨rfl, hb⟩; refine Hid.out ?_))
    refine Lib.hid ?_
    obtain ⟨z, hz⟩ : ∃ z, z = numR b.data.toList := ⟨_, rfl⟩
    have HZ := Lib.hid hz
    rw [← hz]
    obtain ⟨cb, hcb⟩ : ∃ cb, cb = canB b.data.toList := ⟨_, rfl⟩
    rw [← hcb]
    obtain ⟨O, hO⟩ : ∃ O, O = w1.heap.size + 1 := ⟨_, rfl⟩
    rw [← hO] at X0 XF
    obtain ⟨x0, x1, x2⟩ := X0.out.below hb
    have f1 := (hb.frozen (p := ⟨O, 1, none⟩) (by simp only; omega)).trans (XF.out 1)
    have f2 := (hb.frozen (p := ⟨O, 2, none⟩) (by simp only; omega)).trans (XF.out 2)
    have BW := Lib.hid (show Below O W (w3.setCell ⟨O, 2, none⟩ (.int .i64 z)) from (hb.mono (show O ≤ W.heap.size by omega)).setCell (p := ⟨O, 2, none⟩) (Nat.le_refl _) _)
    have XS := Lib.hid (show ChnAt (w3.setCell ⟨O, 2, none⟩ (.int .i64 z)) O a (.slice none 0 0) z from ⟨by go_cell, by go_cell, by go_cell⟩)
    have FS := Lib.hid (show (w3.setCell ⟨O, 2, none⟩ (.int .i64 z)).frozen? ⟨O, 1, none⟩ = false by rw [World.frozen?_setCell]; exact f1)
    clear hb hz hcb HD HW l0 l1 m1 e0 e1 e2 h0 h1 h2 hW X0 XF
    subst hO
    obtain ⟨n, hnN⟩ : ∃ n, n = N - 2 := ⟨_, rfl⟩
    have HRN2 := Lib.hid (show r.length = n by have := HRN.out; omega)
    have hr2 : 2 ≤ n := by have := HRN2.out; omega
    have hn12 : n ≤ 12 := by omega
    go_wp2_with (fail)
    rw [← hnN]
    clear hnN hn0 hn1 x0 x1 x2 f1 f2
    go_loopw [33] (fun i wr => ∃ (k : Nat) (a' : Option Addr) (c' : Nat), k ≤ n ∧ i = .int .i64 k ∧ ChnAt wr (w1.heap.size + 1) a (.slice a' k c') z ∧ wr.frozen? ⟨w1.heap.size + 1, 1, none⟩ = false ∧ OwnPt wr (w1.heap.size + 1 + 1) (.slice a' k c') ((r.take k).map ptD) ∧ Below (w1.heap.size + 1) W wr) (fun i _ => n - (intOf i).toNat)
    case atStart => exact ⟨0, none, 0, Nat.zero_le _, rfl, XS.out, FS.out, OwnPt.empty _ _, BW.out⟩
    case round =>
      obtain ⟨k, a', c', hk, rfl, hx, hf, hown, hbel⟩ := hrel
      have HB := Lib.hid hbel
      have HOW := Lib.hid hown
      have hos : w1.heap.size + 1 + 1 ≤ wr.heap.size := World.block_lt_of_cell? _ _ hx.1
      have ACR := Lib.hid (ACW.out.trans (HB.out.mono (by have := AC.out.size; omega)))
      clear hbel hown
      by_cases hlt : k < n
      · have hkn : (k : Int) < (n : Int) := by omega
        have hkr : k < r.length := by have := HRN2.out; omega
        have c0 : wr.cell? ⟨g, 2 + k, none⟩ = some (.string (r.getD k ⟨#[]⟩)) := by
          rw [Nat.add_comm]; exact (HB.out.cell (p := ⟨g, k + 2, none⟩) (by simp only; omega)).trans (HRW.out k hkr)
        have HS2 := Lib.hid (show (r.take (k + 1)).map ptD = (r.take k).map ptD ++ [ptD (r.getD k ⟨#[]⟩)] by
          rw [List.take_succ_eq_append_getElem hkr, List.map_append]; simp [hkr])
        have hszx : (r.getD k ⟨#[]⟩).size ≤ 1048576 := by
          have hm : r.getD k ⟨#[]⟩ ∈ cutS 32 s := by rw [HRC.out]; simp [hkr]
          have := cutS_parts hm; omega
        have HRP := Lib.hid (fun w' h1 h2 h3 => show Calls Tryz.prog 35 #[.string (r.getD k ⟨#[]⟩)] w' fun e w'' => e = .returned (.tuple #[.agg #[.int .i64 (ptD (r.getD k ⟨#[]⟩)).1, .int .i64 (ptD (r.getD k ⟨#[]⟩)).2], .bool (ptR (r.getD k ⟨#[]⟩)).2]) ∧ Below w'.heap.size w' w'' from readpoint_any (r.getD k ⟨#[]⟩) w' hszx h1 h2 h3)
        have hll : ((r.take k).map ptD).length ≤ 1048577 := by rw [List.length_map, List.length_take]; omega
        have hkl : ((r.take k).map ptD).length = k := by rw [List.length_map, List.length_take]; omega
        obtain ⟨x0, x1, x2⟩ := hx
        generalize (r.take k).map ptD = L at *
        generalize ptD (r.getD k ⟨#[]⟩) = q at *
        generalize (ptR (r.getD k ⟨#[]⟩)).2 = qb at *
        generalize r.getD k ⟨#[]⟩ = x at *
        obtain ⟨px, py⟩ := q
        simp only at HRP
        clear hszx hkr
        go_wp2_with (go_at_call 35; (refine (HRP.out _ (HL.out.below ACR.out) (HPW.out.below ACR.out) (HER.out.below ACR.out)).mono ?_); rintro e w4 ⟨rfl, hb⟩; refine Hid.out ?_)
        refine Lib.hid ?_
        have ab := (Below.refl w4.heap.size w4).alloc (Nat.le_refl _) (.cells #[.int .i64 px, .int .i64 py] 44)
        have y0 := cell_below (cell_below x0 hb) ab
        have y1 := cell_below (cell_below x1 hb) ab
        have y2 := cell_below (cell_below x2 hb) ab
        have yf := (ab.frozen (p := ⟨w1.heap.size + 1, 1, none⟩) (by have := hb.size; simp only; omega)).trans ((hb.frozen (p := ⟨w1.heap.size + 1, 1, none⟩) (by simp only; omega)).trans hf)
        have OA := Lib.hid ((HOW.out.below hb).below ab)
        have BA := Lib.hid ((HB.out.trans (hb.mono (by omega))).trans (ab.mono (by have := hb.size; omega)))
        have hos2 : w1.heap.size + 1 + 1 ≤ (w4.alloc (.cells #[.int .i64 px, .int .i64 py] 44)).heap.size := by have := hb.size; simp; omega
        clear hb ab c0 hf x0 x1 x2
        go_wp2_with (at_builtin; (refine wpList_app_pt rfl _ _ (w1.heap.size + 1 + 1) (.slice a' k c') L px py _ _ OA.out hos2 hll rfl rfl _ (by simp) rfl ?_))
        intro v' w' h1 h2
        obtain ⟨a2, c2', rfl⟩ := h1.form
        have z0 := (h2.cell (p := ⟨w1.heap.size + 1, 0, none⟩) (by simp)).trans y0
        have z1 := (h2.cell (p := ⟨w1.heap.size + 1, 1, none⟩) (by simp)).trans y1
        have z2 := (h2.cell (p := ⟨w1.heap.size + 1, 2, none⟩) (by simp)).trans y2
        have zf := (h2.frozen (p := ⟨w1.heap.size + 1, 1, none⟩) (by simp)).trans yf
        have hz := Lib.hid h1
        have ZB := Lib.hid (BA.out.trans (h2.mono (by omega)))
        rw [show (L ++ [(px, py)]).length = k + 1 by simp [hkl]] at hz ⊢
        clear h1 h2 y0 y1 y2 yf
        go_wp2
        go_roundw
        case rel => exact ⟨k + 1, a2, c2', by omega, by go_num, ⟨by go_cell, by go_cell, by go_cell⟩, by rw [World.frozen?_setCell]; exact zf, by rw [HS2.out]; exact hz.out.put (by simp) _, ZB.out.setCell (p := ⟨w1.heap.size + 1, 1, none⟩) (Nat.le_refl _) _⟩
        case measure => simp [intOf]; omega
      · obtain rfl : k = n := by omega
        have HE := Lib.hid (show (r.take k).map ptD = r.map ptD by rw [List.take_of_length_le (by have := HRN2.out; omega)])
        rw [HE.out] at HOW
        have hnm : a.size ≤ maxLen := by
          have := cutS_parts (c := 32) (s := s) (x := a) (by rw [HRC.out]; simp)
          unfold maxLen; omega
        have hml : (r.map ptD).length ≤ 1048576 := by rw [List.length_map]; have := HRN2.out; omega
        have HT := Lib.hid (fun w' (hb : Below wr.heap.size wr w') => chntext_any a z (.slice a' k c') (r.map ptD) w' hnm hml (OwnPt.pts (HOW.out.below hb) hml) (HPW.out.below (Below.next ACR.out hb)))
        have hspos : 0 < s.size := by
          have h1 := cutS_le 32 s
          have h2 := congrArg List.length HRC.out
          simp only [List.length_cons] at h2
          have h3 := HRN2.out
          omega
        have HIF := Lib.hid (HZ.out ▸ rdc_iff HRC.out (by have := HRN2.out; omega))
        have HVY := Lib.hid (fun h => rdcT_yes HRC.out h)
        rw [← HZ.out] at HVY
        obtain ⟨x0, x1, x2⟩ := hx
        have r0 := (HB.out.cell (p := ⟨w.heap.size, 0, none⟩) (by simp only; omega)).trans RR.out.1
        have r1 := (HB.out.cell (p := ⟨w.heap.size, 1, none⟩) (by simp only; omega)).trans RR.out.2.1
        have r2 := (HB.out.cell (p := ⟨w.heap.size, 2, none⟩) (by simp only; omega)).trans RR.out.2.2
        have g0 := (HB.out.frozen (p := ⟨w.heap.size, 0, none⟩) (by simp only; omega)).trans GG.out.1
        have g1 := (HB.out.frozen (p := ⟨w.heap.size, 1, none⟩) (by simp only; omega)).trans GG.out.2.1
        have g2 := (HB.out.frozen (p := ⟨w.heap.size, 2, none⟩) (by simp only; omega)).trans GG.out.2.2
        obtain ⟨L, hL⟩ : ∃ L, L = r.map ptD := ⟨_, rfl⟩
        rw [← hL] at HT HIF HVY HOW
        obtain ⟨T, hT⟩ : ∃ T, T = ctxT a z L := ⟨_, rfl⟩
        rw [← hT] at HT HIF
        have HRB := Lib.hid (rbchn_any a z a' k c' s T wr hspos HT.out)
        clear hL hT HE hlt HRW HT hspos
        by_cases ht : T = s
        · rw [if_pos ht] at HRB
          have HB1 := Lib.hid (HIF.out.1 ht)
          have HV := Lib.hid (HVY.out HB1.out)
          clear HIF HVY ht
          go_wp2_with (go_at_call 36; (refine HRB.out.mono ?_); rintro e w6 ⟨rfl, hb⟩; refine Hid.out ?_)
          refine Lib.hid ?_
          have AC6 := Lib.hid (Below.next ACR.out hb)
          replace r0 := cell_below r0 hb
          replace r1 := cell_below r1 hb
          replace r2 := cell_below r2 hb
          replace g0 := (hb.frozen (p := ⟨w.heap.size, 0, none⟩) (by simp only; omega)).trans g0
          replace g1 := (hb.frozen (p := ⟨w.heap.size, 1, none⟩) (by simp only; omega)).trans g1
          replace g2 := (hb.frozen (p := ⟨w.heap.size, 2, none⟩) (by simp only; omega)).trans g2
          have OO := Lib.hid ((HOW.out.below hb).mono (B' := w.heap.size + 1) (by omega))
          have hne : w1.heap.size + 1 ≠ w.heap.size := by omega
          clear hb HRB HOW x0 x1 x2
          go_wp2
          refine bodyPost_ret (v := .tuple #[.agg #[.string a, .slice a' k c', .int .i64 z], .bool true]) (by simp [results, Tryz.results12, go_sem, *]) rfl ⟨_, by rw [HV.out, HB1.out], ?_, ?_⟩
          · rw [HV.out]
            refine OwnPt.mono (B := w.heap.size + 1) ?_ (by omega)
            iterate 3 (refine OwnPt.put ?_ (by simp only; omega) _)
            exact OO.out
          · iterate 3 (refine Below.setCell ?_ (by simp only; omega) _)
            exact AC6.out
        · rw [if_neg ht] at HRB
          have HB0 := Lib.hid (show rdcB s = false from by
            cases e : rdcB s
            · rfl
            · exact absurd (HIF.out.2 e) ht)
          clear HIF HVY ht
          go_wp2_with (go_at_call 36; (refine HRB.out.mono ?_); rintro e w6 ⟨rfl, hb⟩; refine Hid.out ?_)
          refine Lib.hid ?_
          have AC6 := Lib.hid (Below.next ACR.out hb)
          replace r0 := cell_below r0 hb
          replace r1 := cell_below r1 hb
          replace r2 := cell_below r2 hb
          replace g0 := (hb.frozen (p := ⟨w.heap.size, 0, none⟩) (by simp only; omega)).trans g0
          replace g1 := (hb.frozen (p := ⟨w.heap.size, 1, none⟩) (by simp only; omega)).trans g1
          replace g2 := (hb.frozen (p := ⟨w.heap.size, 2, none⟩) (by simp only; omega)).trans g2
          have hne : w1.heap.size + 1 ≠ w.heap.size := by omega
          clear hb HRB HOW x0 x1 x2
          go_wp2
          refine bodyPost_ret (v := .tuple #[.agg #[.string ⟨#[]⟩, .slice none 0 0, .int .i64 0], .bool false]) (by simp [results, Tryz.results12, go_sem, *]) rfl ⟨_, by rw [rdcT_no HB0.out, HB0.out], by rw [rdcT_no HB0.out]; exact OwnPt.empty _ _, ?_⟩
          iterate 3 (refine Below.setCell ?_ (by simp only; omega) _)
          exact AC6.out
end Go.Proofs.YtlelcecbpahliaaGreatDoor
