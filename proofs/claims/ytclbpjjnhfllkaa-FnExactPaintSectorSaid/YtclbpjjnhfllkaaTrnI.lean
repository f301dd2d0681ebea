/- A turned circle: the program's. -/
import Derived.Test.YtclbpjjnhfllkaaCirI
import Derived.Test.YtclbpjjnhfllkaaTrnS
import Derived.Test.YtclbpjjnhfllkaaAng
import Derived.Deep.RegionLaw
namespace Go.Proofs.Ytclbpjjnhfllkaa
open Go.ChangeShapes Go.WideShapes Go.ChangeAt Go.RowKit Pm

theorem turn_parts {L : List ByteArray} (h : L.length = 360) {a : Nat} (ha : a < 360) : turnL L a = L.drop (360 - a) ++ L.take (360 - a) := by
  apply List.ext_getElem
  · unfold turnL; rw [turnK_len, List.length_append, List.length_drop, List.length_take, h]; omega
  · intro i h1 h2
    have hi : i < 360 := by unfold turnL at h1; rw [turnK_len] at h1; exact h1
    have hm : (i + 360 - a) % 360 < 360 := Nat.mod_lt _ (by omega)
    simp only [turnL, turnK, List.getElem_map, List.getElem_range]
    rw [if_pos hm]
    by_cases e : i < a
    · have h3 : (i + 360 - a) % 360 = 360 - a + i := by omega
      rw [List.getElem_append_left (by rw [List.length_drop, h]; omega), List.getElem_drop, h3]
      have h4 : 360 - a + i < L.length := by omega
      simp [h4]
    · have h3 : (i + 360 - a) % 360 = i - a := by omega
      rw [List.getElem_append_right (by rw [List.length_drop, h]; omega), List.getElem_take, h3]
      have h4 : i - a < L.length := by omega
      have h5 : i - (L.drop (360 - a)).length = i - a := by rw [List.length_drop, h]; omega
      have key : ∀ n (hh : n < L.length), n = i - a → L.getD (i - a) e0 = L[n] := by rintro n hh rfl; simp [hh]
      exact key _ _ h5
theorem OwnA.keep {w w' : World} {g B : Nat} {L : List ByteArray} (h : OwnA w g L) (hb : Below B w w') (hg : g < B) : OwnA w' g L := OwnA.of_heap (by rw [hb.block g hg]; exact h.heap) h.len
theorem splice_turn {Z X1 X2 : List Value} {a : Nat} (hZ : Z.length = 360) (ha : a ≤ 360) (h1 : X1.length = 360 - a) (h2 : X2.length = a) : splice (splice Z a X1) 0 X2 = X2 ++ X1 := by
  unfold splice
  rw [List.take_zero, List.nil_append, h2, Nat.zero_add, h1]
  congr 1
  rw [List.drop_append, List.length_take, hZ, Nat.min_eq_left ha, Nat.sub_self, List.drop_zero, List.drop_eq_nil_of_le (by rw [List.length_take]; omega), List.nil_append]
  rw [show List.drop (a + (360 - a)) Z = [] from List.drop_eq_nil_of_le (by omega), List.append_nil]
set_option maxRecDepth 100000 in
set_option maxHeartbeats 40000000 in
theorem turned_any (g : Nat) (L : List ByteArray) (d : Int) (w : World) (ho : OwnA w g L) :
    Calls Try.prog 62 #[.pointer (some ⟨g, 0, none⟩), .int .i64 d] w fun e w' => e = .returned (.agg (cirV (turnL L (ang d).toNat)).toArray) ∧ Below w.heap.size w w' := by
  have HZ := zeroArr
  obtain ⟨Z, hZ⟩ : ∃ Z, Z = cirV (List.replicate 360 e0) := ⟨_, rfl⟩
  rw [← hZ] at HZ
  have hzl : Z.length = 360 := by rw [hZ, cirV_len]; simp
  have hd := ang_bd d
  have HD := Lib.hid (fun w => angle_any d w)
  obtain ⟨q, hq⟩ : ∃ q : Nat, (q : Int) = ang d := ⟨(ang d).toNat, by omega⟩
  rw [← hq] at HD
  rw [show (ang d).toNat = q by omega]
  have hq1 : q < 360 := by omega
  have hq2 : (q : Int) < 360 := by omega
  have hq3 : (q : Int) ≤ 360 := by omega
  have hq4 : ¬ q = 360 := by omega
  have hr1 : (360 : Int) - (q : Int) = ((360 - q : Nat) : Int) := by omega
  have hr2 : ((360 - q : Nat) : Int) ≤ 360 := by omega
  have hr3 : 360 - q ≤ 360 := by omega
  have hr4 : IntKind.i64.wrap ((360 - q : Nat) : Int) = ((360 - q : Nat) : Int) := IntWalk.i64_in _ (by omega)
  have hr5 : (0 : Int) ≤ ((360 - q : Nat) : Int) := by omega
  have hq5 : ¬ 360 = q := by omega
  have HX1 := Lib.hid (show ((cirV L).take (360 - q)).length = 360 - q by rw [List.length_take, cirV_len, ho.len]; omega)
  have HX2 := Lib.hid (show ((cirV L).drop (360 - q)).length = q by rw [List.length_drop, cirV_len, ho.len]; omega)
  have HONE := Lib.hid (show ∀ v ∈ cirV L, v.oneCell' = true from fun v hv => by
    unfold cirV at hv
    obtain ⟨s, _, rfl⟩ := List.mem_map.1 hv
    rfl)
  have hLl := ho.len
  have HT := Lib.hid (turn_parts hLl hq1)
  have hgl := ho.lt
  have HO := Lib.hid (show OwnA ((w.alloc (.cells Z.toArray 60)).alloc (.cells Z.toArray 60)) g L from (ho.below ((Below.refl _ _).alloc (Nat.le_refl _) _)).below ((Below.refl _ _).alloc (Nat.le_refl _) _))
  have HB := Lib.hid (show Below w.heap.size w ((w.alloc (.cells Z.toArray 60)).alloc (.cells Z.toArray 60)) from ((Below.refl _ _).alloc (Nat.le_refl _) _).alloc (by simp) _)
  clear ho hd hq hZ
  go_enter Try.func62, Try.ntmps62
  go_wp2_with (go_at_call 48; refine (HD.out _).mono ?_; rintro e w' ⟨rfl, rfl⟩)
  have HG1 := Lib.hid (show ((w.alloc (.cells Z.toArray 60)).alloc (.cells Z.toArray 60)).heap[w.heap.size + 1]? = some (.cells Z.toArray 60 (0, 0)) by
    have h := heap_alloc_last (w.alloc (.cells Z.toArray 60)) (.cells Z.toArray 60)
    rw [show (w.alloc (.cells Z.toArray 60)).heap.size = w.heap.size + 1 by simp] at h
    exact h)
  obtain ⟨W, hW⟩ : ∃ W, W = (w.alloc (.cells Z.toArray 60)).alloc (.cells Z.toArray 60) := ⟨_, rfl⟩
  have HGR := Lib.hid (show W.heap[w.heap.size]? = some (.cells Z.toArray 60 (0, 0)) by
    rw [hW, Below.heap_alloc _ _ _ (by simp)]
    exact heap_alloc_last w _)
  rw [← hW] at HO HB HG1 ⊢
  clear hW
  obtain ⟨X1, hX1⟩ : ∃ X1, X1 = (cirV L).take (360 - q) := ⟨_, rfl⟩
  obtain ⟨X2, hX2⟩ : ∃ X2, X2 = (cirV L).drop (360 - q) := ⟨_, rfl⟩
  rw [← hX1] at HX1
  rw [← hX2] at HX2
  have HS1 := Lib.hid (show ∀ w', OwnA w' g L → ∀ j v, X1[j]? = some v → w'.cell? ((⟨g, 0, none⟩ : Addr).add j) = some v from fun w' h j v hj => by
    rw [Addr.add_mid]
    refine h.range j v ?_
    rw [hX1, List.getElem?_take] at hj
    split at hj
    · exact hj
    · cases hj)
  have HS2 := Lib.hid (show ∀ w', OwnA w' g L → ∀ j v, X2[j]? = some v → w'.cell? ((⟨g, 360 - q, none⟩ : Addr).add j) = some v from fun w' h j v hj => by
    rw [Addr.add_mid]
    have := h.range (360 - q + j) v (by rw [hX2, List.getElem?_drop] at hj; exact hj)
    rwa [Nat.zero_add] at this)
  have HN1 := Lib.hid (show ∀ v ∈ X1, v.oneCell' = true from fun v hv => HONE.out v (by rw [hX1] at hv; exact List.mem_of_mem_take hv))
  have HN2 := Lib.hid (show ∀ v ∈ X2, v.oneCell' = true from fun v hv => HONE.out v (by rw [hX2] at hv; exact List.mem_of_mem_drop hv))
  have HFIN := Lib.hid (show splice (splice Z q X1) 0 X2 = cirV (turnL L q) by
    rw [splice_turn hzl (by omega) HX1.out HX2.out, HT.out, hX1, hX2]
    simp [cirV, List.map_drop, List.map_take])
  clear hX1 hX2 HONE HT HZ
  go_region_law ((refine step_copy_splice rfl (.tmp 10) (.tmp 15) 55 55 rfl 9 Try.underlying55 (by kernel_rfl) _ _ _ _ _ _ rfl rfl (w.heap.size + 1) q Z 60 HG1.out X1 (by rw [HX1.out]; exact (Nat.min_self _).symm) (fun _ => ⟨rfl, _, rfl, HS1.out _ HO.out⟩) (by rw [HX1.out, hzl]; omega) HN1.out (w.heap.size + 1) W (Below.refl _ _).drew (Nat.le_refl _) ?_; intro w4 hg4 hb4))
  have HG4 := Lib.hid hg4.out
  have HB4 := Lib.hid (HB.out.trans (hb4.mono (by omega)))
  have HO4 := Lib.hid (HO.out.keep hb4 (by omega))
  have HGR4 := Lib.hid (show w4.heap[w.heap.size]? = some (.cells Z.toArray 60 (0, 0)) by rw [hb4.block _ (by omega)]; exact HGR.out)
  have HSL := Lib.hid (show (splice Z q X1).length = 360 by rw [length_splice _ _ _ (by rw [HX1.out, hzl]; omega), hzl])
  clear hg4 hb4
  by_cases hq0 : q = 0
  · have hx0 : ¬ 0 < X2.length := by rw [HX2.out]; omega
    have hqz : 360 - q = 360 := by omega
    have hqi : (q : Int) = 0 := by omega
    have hqw : IntKind.i64.wrap 360 = 360 := by decide
    go_wp2_with (fail)
    go_region_law ((refine step_copy_splice rfl (.tmp 18) (.tmp 23) 55 55 rfl 9 Try.underlying55 (by kernel_rfl) _ _ _ _ _ _ rfl rfl (w.heap.size + 1) 0 (splice Z q X1) 60 HG4.out X2 (by rw [HX2.out]; show _ = min _ _; omega) (fun h => absurd h hx0) (by rw [HX2.out, HSL.out]; omega) HN2.out (w.heap.size + 1) w4 (Below.refl _ _).drew (Nat.le_refl _) ?_; intro w6 hg5 hb5))
    obtain ⟨C, hC⟩ : ∃ C, C = (cirV (turnL L q)).toArray := ⟨_, rfl⟩
    have hcs : C.size = 360 := by rw [hC]; unfold turnL; simp [cirV_len, turnK_len]
    have hone : C.all (·.oneCell') = true := by
      rw [hC]
      exact all_oneCell_toArray (fun v hv => by
        unfold cirV at hv
        obtain ⟨s, _, rfl⟩ := List.mem_map.1 hv
        rfl)
    have hg6 : w6.heap[w.heap.size + 1]? = some (.cells C 60 (0, 0)) := by
      have h := hg5.out
      rw [HFIN.out] at h
      rw [h, hC]
    have HGR6 := Lib.hid (show w6.heap[w.heap.size]? = some (.cells Z.toArray 60 (0, 0)) by rw [hb5.block _ (by omega)]; exact HGR4.out)
    have HB6 := Lib.hid (HB4.out.trans (hb5.mono (by omega)))
    have HCC := Lib.hid hC
    have HSI := Lib.hid sizeArr
    have hzs : Z.toArray.size = 360 := by simpa using hzl
    clear hC hg5 hb5
    go_wp2_with (first
      | (refine wpList_load_row rfl 60 _ rfl (w.heap.size + 1) rfl 60 C (0, 0) _ hg6 Try.underlying60 rfl (by rw [HSI.out, hcs]) ?_)
      | (refine wpList_store_row rfl 60 _ _ rfl w.heap.size C rfl rfl 60 Z.toArray HGR6.out (by rw [HSI.out, hcs]) (by rw [hzs, hcs]) hone ?_))
    refine bodyPost_ret (results_cell_row rfl _ _ w.heap.size 60 C (0, 0) _ rfl (setRow_heap _ _ Z.toArray C _ _ HGR6.out) Try.underlying60 rfl (by rw [HSI.out, hcs])) rfl ⟨by rw [HCC.out], below_setRow HB6.out (Nat.le_refl _) C⟩
  · have hq6 : ¬ 360 = 360 - q := by omega
    go_wp2_with (fail)
    go_region_law ((refine step_copy_splice rfl (.tmp 18) (.tmp 23) 55 55 rfl 9 Try.underlying55 (by kernel_rfl) _ _ _ _ _ _ rfl rfl (w.heap.size + 1) 0 (splice Z q X1) 60 HG4.out X2 (by rw [HX2.out]; show _ = min _ _; omega) (fun _ => ⟨rfl, _, rfl, HS2.out _ HO4.out⟩) (by rw [HX2.out, HSL.out]; omega) HN2.out (w.heap.size + 1) w4 (Below.refl _ _).drew (Nat.le_refl _) ?_; intro w6 hg5 hb5))
    obtain ⟨C, hC⟩ : ∃ C, C = (cirV (turnL L q)).toArray := ⟨_, rfl⟩
    have hcs : C.size = 360 := by rw [hC]; unfold turnL; simp [cirV_len, turnK_len]
    have hone : C.all (·.oneCell') = true := by
      rw [hC]
      exact all_oneCell_toArray (fun v hv => by
        unfold cirV at hv
        obtain ⟨s, _, rfl⟩ := List.mem_map.1 hv
        rfl)
    have hg6 : w6.heap[w.heap.size + 1]? = some (.cells C 60 (0, 0)) := by
      have h := hg5.out
      rw [HFIN.out] at h
      rw [h, hC]
    have HGR6 := Lib.hid (show w6.heap[w.heap.size]? = some (.cells Z.toArray 60 (0, 0)) by rw [hb5.block _ (by omega)]; exact HGR4.out)
    have HB6 := Lib.hid (HB4.out.trans (hb5.mono (by omega)))
    have HCC := Lib.hid hC
    have HSI := Lib.hid sizeArr
    have hzs : Z.toArray.size = 360 := by simpa using hzl
    clear hC hg5 hb5
    go_wp2_with (first
      | (refine wpList_load_row rfl 60 _ rfl (w.heap.size + 1) rfl 60 C (0, 0) _ hg6 Try.underlying60 rfl (by rw [HSI.out, hcs]) ?_)
      | (refine wpList_store_row rfl 60 _ _ rfl w.heap.size C rfl rfl 60 Z.toArray HGR6.out (by rw [HSI.out, hcs]) (by rw [hzs, hcs]) hone ?_))
    refine bodyPost_ret (results_cell_row rfl _ _ w.heap.size 60 C (0, 0) _ rfl (setRow_heap _ _ Z.toArray C _ _ HGR6.out) Try.underlying60 rfl (by rw [HSI.out, hcs])) rfl ⟨by rw [HCC.out], below_setRow HB6.out (Nat.le_refl _) C⟩
end Go.Proofs.Ytclbpjjnhfllkaa
