/- Reading a signal: the spelling, the program's. -/
import Derived.Test.YtgnajfdcbpfdjaaDoorRsgX
import Derived.Test.YtgnajfdcbpfdjaaDoorPhsA
namespace Go.Proofs.YtgnajfdcbpfdjaaDoor
open Go.ChangeShapes Go.WideShapes Go.ChangeAt Go.RowKit Pm

theorem prtO_len {p : Ph} {u : Int} {m : List UInt8} (h : prtO p u = some m) : m.length ≤ 3 := by
  unfold prtO at h
  repeat (split at h; · (cases h; simp))
  cases h
theorem splL_len (ps : List Ph) (u : Int) : (splL ps u).length ≤ 3 * ps.length := by
  induction ps with
  | nil => simp [splL]
  | cons p ps ih =>
    have h : (partL u p).length ≤ 3 := by
      unfold partL
      cases e : prtO p u with
      | none => simp
      | some m => simpa using prtO_len e
    unfold splL at *
    rw [List.flatMap_cons, List.length_append, List.length_cons]; omega
theorem okP_def (ps : List Ph) (u : Int) (k : Nat) (s : ByteArray) (n : Int) (h : ps.getD k ph0 = (s, n)) : okP ps u k = ((prtO (s, n) u).isSome && (s.toList.isEmpty == decide (k % 2 = 1))) := by unfold okP; rw [h]
set_option maxRecDepth 100000 in
set_option maxHeartbeats 4000000 in
theorem spelling_row (b off c : Nat) (ps : List Ph) (u : Int) (w : World) (hu : 1 ≤ u ∧ u ≤ 50) (hl : ps.length ≤ 1048576) (hc : ∀ i, i < ps.length → w.cell? ⟨b, off + i * 2, none⟩ = some (.string (ps.getD i ph0).1) ∧ w.cell? ⟨b, off + i * 2 + 1, none⟩ = some (.int .i64 (ps.getD i ph0).2)) (hodd : ps.length % 2 = 1) :
    Calls Tryd.prog 38 #[.slice (some ⟨b, off, none⟩) ps.length c, .int .i64 u] w fun e w' => e = .returned (.string ⟨(splE ps u).toArray⟩) ∧ Below w.heap.size w w' := by
  have HC := Lib.hid hc
  have HU := Lib.hid hu
  have HOD := Lib.hid hodd
  have htm : ((ps.length : Int) % 2 == 0) = false := by rw [beq_eq_false_iff_ne]; omega
  have HB0 := Lib.hid (Bld.new w)
  have HBB := Lib.hid (show Below w.heap.size w (w.alloc (.cells #[.pointer none, .slice none 0 0] 87)) from (Below.refl _ _).alloc (Nat.le_refl _) _)
  clear hc hu hodd
  go_enter Tryd.func38, Tryd.ntmps38
  go_wp2_with (fail)
  go_loopw [6, 7, 8, 9, 10, 17] (fun a1 a2 a3 a4 a5 i wr => ∃ k : Nat, k ≤ ps.length ∧ i = .int .i64 k ∧ (∀ i, i < k → okP ps u i = true) ∧ Bld w.heap.size w.heap.size (splL (ps.take k) u) wr ∧ Below w.heap.size w wr) (fun _ _ _ _ _ i _ => ps.length - (intOf i).toNat)
  case atStart => exact ⟨0, Nat.zero_le _, rfl, fun i h => by omega, HB0.out, HBB.out⟩
  case round =>
    obtain ⟨k, hk, rfl, hok, hbld, hbel⟩ := hrel
    have HOK := Lib.hid hok
    have HBD := Lib.hid hbld
    have HBE := Lib.hid hbel
    clear hok hbld
    by_cases hlt : k < ps.length
    · have c0 := cell_below (HC.out k hlt).1 hbel
      have c1 := cell_below (HC.out k hlt).2 hbel
      have hkn : (k : Int) < (ps.length : Int) := by omega
      have hpair : ps.getD k ph0 = ((ps.getD k ph0).1, (ps.getD k ph0).2) := rfl
      have HTK := Lib.hid (splL_take (u := u) hlt)
      obtain ⟨s, hs⟩ : ∃ s, s = (ps.getD k ph0).1 := ⟨_, rfl⟩
      obtain ⟨n, hn⟩ : ∃ n, n = (ps.getD k ph0).2 := ⟨_, rfl⟩
      rw [← hs] at c0
      rw [← hn] at c1
      have hpr : ps.getD k ph0 = (s, n) := by rw [hs, hn]
      rw [hpr] at HTK
      have HKD := Lib.hid (okP_def ps u k s n hpr)
      have HPT := Lib.hid (fun w => partof_any s n u w HU.out)
      have hpl : (splL (ps.take k) u).length ≤ 3145728 := by have := splL_len (ps.take k) u; rw [List.length_take] at this; omega
      have HNO := Lib.hid (show okP ps u k = false → splE ps u = [] from fun h => splE_no (fun ha => by rw [ha.2 k hlt] at h; cases h))
      have hbx : Below wr.heap.size wr (wr.alloc (.cells #[.string s, .int .i64 n] 45)) := (Below.refl _ _).alloc (Nat.le_refl _) _
      have HBX := Lib.hid (Below.next hbel hbx)
      have HBDX := Lib.hid (HBD.out.below hbx)
      have HLT := Lib.hid hlt
      clear hs hn hpr hpair hbel hbx hlt
      cases ho : prtO (s, n) u
      · rw [ho] at HPT HKD
        have HN := Lib.hid (HNO.out (by rw [HKD.out]; rfl))
        have HPT2 := Lib.hid (fun w => (show Calls Tryd.prog 66 #[.agg #[.string s, .int .i64 n], .int .i64 u] w fun e w' => e = .returned (.tuple #[.string ⟨#[]⟩, .bool false]) ∧ Below w.heap.size w w' from HPT.out w))
        clear HPT HKD HNO ho HTK
        go_wp2_with (go_at_call 66; refine (HPT2.out _).mono ?_; rintro e w2 ⟨rfl, hb⟩; refine Hid.out ?_)
        refine Lib.hid ?_
        have k0 : w2.cell? ⟨wr.heap.size, 0, none⟩ = some (.string s) := cell_below (by simp) hb
        have HB2 := Lib.hid (Below.next HBX.out hb)
        clear hb
        cases he : s.toList.isEmpty
        all_goals
          go_wp2_with (fail)
          go_ret
          exact ⟨by rw [HN.out]; rfl, HB2.out⟩
      · rename_i m
        have hm3 := prtO_len ho
        have HPL := Lib.hid (show partL u (s, n) = m by unfold partL; rw [ho]; rfl)
        rw [ho] at HPT HKD
        have HPT2 := Lib.hid (fun w => (show Calls Tryd.prog 66 #[.agg #[.string s, .int .i64 n], .int .i64 u] w fun e w' => e = .returned (.tuple #[.string ⟨m.toArray⟩, .bool true]) ∧ Below w.heap.size w w' from HPT.out w))
        clear HPT ho
        obtain ⟨ms, hms⟩ : ∃ ms : ByteArray, ms = ⟨m.toArray⟩ := ⟨_, rfl⟩
        rw [← hms] at HPT2
        have HMS := Lib.hid hms
        clear hms
        go_wp2_with (go_at_call 66; refine (HPT2.out _).mono ?_; rintro e w2 ⟨rfl, hb⟩; refine Hid.out ?_)
        refine Lib.hid ?_
        have k0 : w2.cell? ⟨wr.heap.size, 0, none⟩ = some (.string s) := cell_below (by simp) hb
        have HB2 := Lib.hid (Below.next HBX.out hb)
        have HBD2 := Lib.hid (HBDX.out.below hb)
        clear hb
        have he0 := True.intro
        cases he : s.toList.isEmpty <;> rcases Nat.mod_two_eq_zero_or_one k with hp | hp
        · have HKK := Lib.hid (show okP ps u k = true by rw [HKD.out, he, hp]; rfl)
          have hq : ((k : Int) % 2 == 0) = true := by rw [beq_iff_eq]; omega
          have HWR := Lib.hid (bwrite_any w.heap.size w.heap.size (splL (ps.take k) u) m w2 HBD2.out (by omega) HB2.out.size)
          rw [← HMS.out] at HWR
          rw [HPL.out] at HTK
          rw [← HTK.out] at HWR
          clear HKD HNO HTK HPL he0 hp
          go_wp2_with (go_at_call 67; refine HWR.out.mono ?_; rintro e w3 ⟨⟨v, rfl⟩, hbd, hb⟩; refine Hid.out ?_)
          refine Lib.hid ?_
          have HBD3 := Lib.hid hbd
          have HB3 := Lib.hid (HB2.out.trans hb)
          clear hbd hb HWR
          go_wp2_with (fail)
          go_roundw
          case rel => exact ⟨k + 1, by have := HLT.out; omega, by go_num, fun i hi => by
            by_cases e : i < k
            · exact HOK.out i e
            · obtain rfl : i = k := by omega
              exact HKK.out, HBD3.out, HB3.out⟩
          case measure => have := HLT.out; simp [intOf]; omega
        · have HN := Lib.hid (HNO.out (by rw [HKD.out, he, hp]; rfl))
          have hq : ((k : Int) % 2 == 0) = false := by rw [beq_eq_false_iff_ne]; omega
          clear HKD HNO HTK HPL HMS he0 hp
          go_wp2_with (fail)
          go_ret
          exact ⟨by rw [HN.out]; rfl, HB2.out⟩
        · have HN := Lib.hid (HNO.out (by rw [HKD.out, he, hp]; rfl))
          have hq : ((k : Int) % 2 == 0) = true := by rw [beq_iff_eq]; omega
          clear HKD HNO HTK HPL HMS he0 hp
          go_wp2_with (fail)
          go_ret
          exact ⟨by rw [HN.out]; rfl, HB2.out⟩
        · have HKK := Lib.hid (show okP ps u k = true by rw [HKD.out, he, hp]; rfl)
          have hq : ((k : Int) % 2 == 0) = false := by rw [beq_eq_false_iff_ne]; omega
          have HWR := Lib.hid (bwrite_any w.heap.size w.heap.size (splL (ps.take k) u) m w2 HBD2.out (by omega) HB2.out.size)
          rw [← HMS.out] at HWR
          rw [HPL.out] at HTK
          rw [← HTK.out] at HWR
          clear HKD HNO HTK HPL he0 hp
          go_wp2_with (go_at_call 67; refine HWR.out.mono ?_; rintro e w3 ⟨⟨v, rfl⟩, hbd, hb⟩; refine Hid.out ?_)
          refine Lib.hid ?_
          have HBD3 := Lib.hid hbd
          have HB3 := Lib.hid (HB2.out.trans hb)
          clear hbd hb HWR
          go_wp2_with (fail)
          go_roundw
          case rel => exact ⟨k + 1, by have := HLT.out; omega, by go_num, fun i hi => by
            by_cases e : i < k
            · exact HOK.out i e
            · obtain rfl : i = k := by omega
              exact HKK.out, HBD3.out, HB3.out⟩
          case measure => have := HLT.out; simp [intOf]; omega
    · obtain rfl : k = ps.length := by omega
      have HF := Lib.hid (show splE ps u = splL ps u from splE_yes ⟨HOD.out, HOK.out⟩)
      have HBS := Lib.hid (bstring_any w.heap.size w.heap.size _ wr HBD.out HBE.out.size)
      rw [List.take_of_length_le (Nat.le_refl _), ← HF.out] at HBS
      clear hbel
      go_wp2_with (go_at_call 68; refine HBS.out.mono ?_; rintro e w3 ⟨rfl, hb⟩; refine Hid.out ?_)
      refine Lib.hid ?_
      have HB3 := Lib.hid (HBE.out.trans hb)
      clear hb
      go_wp2_with (fail)
      go_ret
      exact ⟨rfl, HB3.out⟩
theorem spelling_any (v : Value) (ps : List Ph) (u : Int) (w : World) (hu : 1 ≤ u ∧ u ≤ 50) (hl : ps.length ≤ 1048576) (h : PhAre w v ps) :
    Calls Tryd.prog 38 #[v, .int .i64 u] w fun e w' => e = .returned (.string ⟨(splE ps u).toArray⟩) ∧ Below w.heap.size w w' := by
  obtain ⟨a, c, rfl, h⟩ := h
  rcases Nat.mod_two_eq_zero_or_one ps.length with hp | hp
  · have HV := Lib.hid (show splE ps u = [] from splE_no (fun h => by have := h.1; omega))
    have htm : ((ps.length : Int) % 2 == 0) = true := by rw [beq_iff_eq]; omega
    clear h hp
    go_enter Tryd.func38, Tryd.ntmps38
    go_wp2_with (fail)
    go_ret
    exact ⟨by rw [HV.out]; rfl, Below.refl _ _⟩
  · obtain ⟨b, off, rfl, hc⟩ := h.2.resolve_left (by intro e; rw [e] at hp; simp at hp)
    exact spelling_row b off c ps u w hu hl hc hp
end Go.Proofs.YtgnajfdcbpfdjaaDoor
