/- Simple lists, turned, merged and dark ones: the program's. -/
import Derived.Test.YtclbpjjnhfllkaaArsI
import Derived.Test.YtclbpjjnhfllkaaDelI
import Derived.Test.YtclbpjjnhfllkaaMrgS
import Derived.Test.YtclbpjjnhfllkaaSecI
namespace Go.Proofs.Ytclbpjjnhfllkaa
open Go.ChangeShapes Go.WideShapes Go.ChangeAt Go.RowKit Pm

theorem arcs_any (g : Nat) (L : List ByteArray) (w : World) (ho : OwnA w g L) :
    Calls Try.prog 55 #[.pointer (some ⟨g, 0, none⟩)] w (ArcsR (cF L) w) := by
  cases hu : uniB L
  · exact arcs_many g L w ho hu
  · exact arcs_uni g L w ho hu
theorem arcP_len (c : Nat → ByteArray) : (arcP c).length ≤ 1048576 := by
  have h := begI_len c 360
  unfold begI at h
  rw [List.length_map] at h
  unfold arcP
  split
  · simp
  · simp; omega
theorem simple_any (g : Nat) (L : List ByteArray) (w : World) (ho : OwnA w g L) :
    Calls Try.prog 61 #[.pointer (some ⟨g, 0, none⟩)] w fun e w' => ∃ v, e = .returned v ∧ OwnSec w' w.heap.size v (simpV (cF L) false) ∧ Below w.heap.size w w' := by
  have HA := Lib.hid (arcs_any g L w ho)
  have HS := Lib.hid (show flt false (arcP (cF L)) = simpV (cF L) false from simple_is (cF L) false)
  have HL := Lib.hid (arcP_len (cF L))
  clear ho
  go_enter Try.func61, Try.ntmps61
  go_wp2_with (go_at_call 55; refine HA.out.mono ?_; rintro e w1 ⟨v, rfl, ho, hb⟩; refine Hid.out ?_)
  refine Lib.hid ?_
  have HD := Lib.hid (delete_false v w.heap.size _ w1 hb.size HL.out ho)
  rw [HS.out] at HD
  have HB := Lib.hid hb
  clear ho hb HA
  go_wp2_with (go_at_call 54; refine HD.out.mono ?_; rintro e w2 ⟨v2, rfl, ho, hb⟩; refine Hid.out ?_)
  refine Lib.hid ?_
  have HO := Lib.hid ho
  have HB2 := Lib.hid (HB.out.trans hb)
  clear ho hb
  go_wp2_with (fail)
  go_ret
  exact ⟨_, rfl, HO.out, HB2.out⟩
theorem cir_one (L : List ByteArray) : ∀ v ∈ cirV L, v.oneCell' = true := fun v hv => by
  unfold cirV at hv
  obtain ⟨s, _, rfl⟩ := List.mem_map.1 hv
  rfl

set_option maxRecDepth 100000 in
set_option maxHeartbeats 4000000 in
theorem turnsec_any (v : Value) (ps : List Sec) (d : Int) (w : World) (h : SecAre w v ps) :
    Calls Try.prog 39 #[v, .int .i64 d] w (OwnSC (trnV ps d) (valC ps) w) := by
  have HS := Lib.hid (okay_any v ps w h)
  cases hv : validS ps
  · rw [hv] at HS
    have H1 := Lib.hid (show trnV ps d = [] by unfold trnV; rw [hv]; rfl)
    have H2 := Lib.hid (show valC ps = 1 by unfold valC; rw [hv]; rfl)
    clear h
    go_enter Try.func39, Try.ntmps39
    go_wp2_with (go_at_call 20; refine HS.out.mono ?_; rintro e w1 ⟨rfl, hb⟩; have AC := Lib.hid hb; clear hb)
    go_ret2
    exact ownsc_no H1.out H2.out AC.out
  · rw [hv] at HS
    have hd := ang_bd d
    have HTN := Lib.hid (fun g L w ho => turned_any g L d w ho)
    obtain ⟨q, hq⟩ : ∃ q : Nat, (q : Int) = ang d := ⟨(ang d).toNat, by omega⟩
    have H1 := Lib.hid (show trnV ps d = simpV (cF (turnL (circL ps) q)) false by unfold trnV; rw [hv, ← hq]; rfl)
    rw [show (ang d).toNat = q by omega] at HTN
    have H2 := Lib.hid (show valC ps = 0 by unfold valC; rw [hv]; rfl)
    have HC := Lib.hid (fun w' (hb : Below w.heap.size w w') => circle_any v ps w' (validS_iff.1 hv) (h.below hb))
    have HZ := zeroArr
    obtain ⟨Z, hZ⟩ : ∃ Z, Z = (cirV (List.replicate 360 e0)).toArray := ⟨_, rfl⟩
    rw [← hZ] at HZ
    have hzs : Z.size = 360 := by rw [hZ]; simp [cirV_len]
    have hLl := circL_len ps
    obtain ⟨L, hL⟩ : ∃ L, L = circL ps := ⟨_, rfl⟩
    rw [← hL] at HC H1 hLl
    have HSI := Lib.hid sizeArr
    obtain ⟨C, hC⟩ : ∃ C, C = (cirV L).toArray := ⟨_, rfl⟩
    have hcs : C.size = 360 := by rw [hC]; simp [cirV_len, hLl]
    have hone : C.all (·.oneCell') = true := by rw [hC]; exact all_oneCell_toArray (cir_one L)
    rw [← hC] at HC
    have HCE := Lib.hid hC
    clear hd hq
    clear h hv hL hZ hC
    go_enter Try.func39, Try.ntmps39
    go_wp2_with (go_at_call 20; refine HS.out.mono ?_; rintro e w1 ⟨rfl, hb⟩; refine Hid.out ?_)
    refine Lib.hid ?_
    have HB := Lib.hid hb
    clear hb HS
    go_wp2_with (go_at_call 53; refine (HC.out _ HB.out).mono ?_; rintro e w2 ⟨rfl, hb⟩; refine Hid.out ?_)
    refine Lib.hid ?_
    have HB2 := Lib.hid (Below.next HB.out hb)
    have HR := Lib.hid (heap_alloc_last w2 (.cells Z 60))
    have HB3 := Lib.hid (HB2.out.alloc HB2.out.size (.cells Z 60))
    have hsz := HB2.out.size
    have HO4 := Lib.hid (show OwnA ((w2.alloc (.cells Z 60)).setRow w2.heap.size C) w2.heap.size L from OwnA.of_heap (by rw [setRow_heap _ _ Z C _ _ HR.out, HCE.out]) hLl)
    have HB4 := Lib.hid (below_setRow HB3.out hsz C)
    clear hb HC HB
    go_wp2_with (first
      | (go_at_call 62; refine (HTN.out w2.heap.size L _ HO4.out).mono ?_; rintro e w5 ⟨rfl, hb⟩; refine Hid.out ?_)
      | (refine wpList_store_row rfl 60 _ _ rfl w2.heap.size C rfl rfl 60 Z HR.out (by rw [HSI.out, hcs]) (by rw [hzs, hcs]) hone ?_))
    refine Lib.hid ?_
    have HR5 := Lib.hid (show w5.heap[w2.heap.size]? = some (.cells C 60 (0, 0)) by rw [hb.block _ HO4.out.lt, HO4.out.heap, HCE.out])
    have HB5 := Lib.hid (Below.next HB4.out hb)
    obtain ⟨C2, hC2⟩ : ∃ C2, C2 = (cirV (turnL L q)).toArray := ⟨_, rfl⟩
    have hcs2 : C2.size = 360 := by rw [hC2]; unfold turnL; simp [cirV_len, turnK_len]
    have hone2 : C2.all (·.oneCell') = true := by rw [hC2]; exact all_oneCell_toArray (cir_one (turnL L q))
    have HO6 := Lib.hid (show OwnA (w5.setRow w2.heap.size C2) w2.heap.size (turnL L q) from OwnA.of_heap (by rw [setRow_heap _ _ C C2 _ _ HR5.out, hC2]) (turnK_len L q 360))
    have HB6 := Lib.hid (below_setRow HB5.out hsz C2)
    have HSM := Lib.hid (simple_any w2.heap.size (turnL L q) _ HO6.out)
    rw [← H1.out] at HSM
    rw [← hC2]
    clear hb hC2 HTN
    go_wp2_with (first
      | (go_at_call 61; refine HSM.out.mono ?_; rintro e w7 ⟨v7, rfl, ho, hb⟩; refine Hid.out ?_)
      | (refine wpList_store_row rfl 60 _ _ rfl w2.heap.size C2 rfl rfl 60 C HR5.out (by rw [HSI.out, hcs2]) (by rw [hcs, hcs2]) hone2 ?_))
    refine Lib.hid ?_
    have HO7 := Lib.hid (ho.mono HB6.out.size)
    have HB7 := Lib.hid (Below.next HB6.out hb)
    clear ho hb
    go_wp2_with (fail)
    go_ret2
    exact ⟨_, by rw [H2.out]; rfl, HO7.out, HB7.out⟩
theorem mrgsec_any (v : Value) (ps : List Sec) (w : World) (h : SecAre w v ps) :
    Calls Try.prog 35 #[v] w (OwnSC (trnV ps 0) (valC ps) w) := by
  have HT := Lib.hid (turnsec_any v ps 0 w h)
  clear h
  go_enter Try.func35, Try.ntmps35
  go_wp2_with (go_at_call 39; refine HT.out.mono ?_; rintro e w1 ⟨v1, rfl, ho, hb⟩; refine Hid.out ?_)
  refine Lib.hid ?_
  have HO := Lib.hid ho
  have HB := Lib.hid hb
  clear ho hb
  go_wp2_with (fail)
  go_ret2
  exact ⟨_, rfl, HO.out, HB.out⟩

set_option maxRecDepth 100000 in
set_option maxHeartbeats 4000000 in
theorem darksec_any (v : Value) (ps : List Sec) (w : World) (h : SecAre w v ps) :
    Calls Try.prog 31 #[v] w (OwnSC (drkV ps) (valC ps) w) := by
  have HS := Lib.hid (okay_any v ps w h)
  cases hv : validS ps
  · rw [hv] at HS
    have H1 := Lib.hid (show drkV ps = [] by unfold drkV; rw [hv]; rfl)
    have H2 := Lib.hid (show valC ps = 1 by unfold valC; rw [hv]; rfl)
    clear h
    go_enter Try.func31, Try.ntmps31
    go_wp2_with (go_at_call 20; refine HS.out.mono ?_; rintro e w1 ⟨rfl, hb⟩; have AC := Lib.hid hb; clear hb)
    go_ret2
    exact ownsc_no H1.out H2.out AC.out
  · rw [hv] at HS
    have H1 := Lib.hid (show drkV ps = simpV (cF (circL ps)) true by unfold drkV; rw [hv]; rfl)
    have HFL := Lib.hid (show flt true (arcP (cF (circL ps))) = simpV (cF (circL ps)) true from simple_is (cF (circL ps)) true)
    rw [← H1.out] at HFL
    have H2 := Lib.hid (show valC ps = 0 by unfold valC; rw [hv]; rfl)
    have HC := Lib.hid (fun w' (hb : Below w.heap.size w w') => circle_any v ps w' (validS_iff.1 hv) (h.below hb))
    have HZ := zeroArr
    obtain ⟨Z, hZ⟩ : ∃ Z, Z = (cirV (List.replicate 360 e0)).toArray := ⟨_, rfl⟩
    rw [← hZ] at HZ
    have hzs : Z.size = 360 := by rw [hZ]; simp [cirV_len]
    have hLl := circL_len ps
    obtain ⟨L, hL⟩ : ∃ L, L = circL ps := ⟨_, rfl⟩
    rw [← hL] at HC H1 hLl
    have HSI := Lib.hid sizeArr
    obtain ⟨C, hC⟩ : ∃ C, C = (cirV L).toArray := ⟨_, rfl⟩
    have hcs : C.size = 360 := by rw [hC]; simp [cirV_len, hLl]
    have hone : C.all (·.oneCell') = true := by rw [hC]; exact all_oneCell_toArray (cir_one L)
    rw [← hC] at HC
    have HCE := Lib.hid hC
    rw [← hL] at HFL
    clear h hv hL hZ hC
    go_enter Try.func31, Try.ntmps31
    go_wp2_with (go_at_call 20; refine HS.out.mono ?_; rintro e w1 ⟨rfl, hb⟩; refine Hid.out ?_)
    refine Lib.hid ?_
    have HB := Lib.hid hb
    clear hb HS
    go_wp2_with (go_at_call 53; refine (HC.out _ HB.out).mono ?_; rintro e w2 ⟨rfl, hb⟩; refine Hid.out ?_)
    refine Lib.hid ?_
    have HB2 := Lib.hid (Below.next HB.out hb)
    have HR := Lib.hid (heap_alloc_last w2 (.cells Z 60))
    have HB3 := Lib.hid (HB2.out.alloc HB2.out.size (.cells Z 60))
    have hsz := HB2.out.size
    have HO4 := Lib.hid (show OwnA ((w2.alloc (.cells Z 60)).setRow w2.heap.size C) w2.heap.size L from OwnA.of_heap (by rw [setRow_heap _ _ Z C _ _ HR.out, HCE.out]) hLl)
    have HB4 := Lib.hid (below_setRow HB3.out hsz C)
    clear hb HC HB
    have HA := Lib.hid (arcs_any w2.heap.size L _ HO4.out)
    have HLN := Lib.hid (arcP_len (cF L))
    go_wp2_with (first
      | (go_at_call 55; refine HA.out.mono ?_; rintro e w5 ⟨v5, rfl, ho, hb⟩; refine Hid.out ?_)
      | (refine wpList_store_row rfl 60 _ _ rfl w2.heap.size C rfl rfl 60 Z HR.out (by rw [HSI.out, hcs]) (by rw [hzs, hcs]) hone ?_))
    refine Lib.hid ?_
    have HD := Lib.hid (delete_true v5 w.heap.size _ w5 (Below.next HB4.out hb).size HLN.out (ho.mono HB4.out.size))
    rw [HFL.out] at HD
    have HB5 := Lib.hid (Below.next HB4.out hb)
    clear ho hb HA
    go_wp2_with (go_at_call 54; refine HD.out.mono ?_; rintro e w6 ⟨v6, rfl, ho, hb⟩; refine Hid.out ?_)
    refine Lib.hid ?_
    have HO6 := Lib.hid ho
    have HB6 := Lib.hid (HB5.out.trans hb)
    clear ho hb
    go_wp2_with (fail)
    go_ret2
    exact ⟨_, by rw [H2.out]; rfl, HO6.out, HB6.out⟩
end Go.Proofs.Ytclbpjjnhfllkaa
