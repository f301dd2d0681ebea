/- The program's circle of a list. -/
import Derived.Test.YtclbpjjnhfllkaaArr
import Derived.Test.YtclbpjjnhfllkaaResC
import Derived.Deep.WholeRow
import Derived.Laws.CopyOwn
namespace Go.Proofs.Ytclbpjjnhfllkaa
open Go.ChangeShapes Go.WideShapes Go.ChangeAt Go.RowKit Pm

theorem infoArr : (Try.prog.info? 60).map (fun i => (i.zero, i.size)) = some (some (.agg (Array.replicate 360 (.string ⟨#[]⟩))), 360) := by kernel_rfl
theorem zero_list (n : Nat) : (cirV (List.replicate n e0)).toArray = Array.replicate n (.string ⟨#[]⟩) := by simp [cirV, e0]
theorem zeroArr (w : World) : (zeroValue 60).run Try.prog w = .ok (.agg (cirV (List.replicate 360 e0)).toArray) w := by
  have h := (zero_of_info infoArr).1 w
  rw [h]
  rw [zero_list]
theorem sizeArr : (Try.prog.info? 60).map (·.size) = some 360 := (zero_of_info infoArr).2
set_option maxRecDepth 100000 in
set_option maxHeartbeats 2000000 in
theorem circle_row (a : Option Addr) (c : Nat) (ps : List Sec) (w : World) (hv : ValidS ps) (h : ArgSec w a ps.length ps) :
    Calls Try.prog 53 #[.slice a ps.length c] w fun e w' => e = .returned (.agg (cirV (circL ps)).toArray) ∧ Below w.heap.size w w' := by
  have HZ := zeroArr
  obtain ⟨Z, hZ⟩ : ∃ Z, Z = (cirV (List.replicate 360 e0)).toArray := ⟨_, rfl⟩
  rw [← hZ] at HZ
  have HZZ := Lib.hid hZ
  have HC := Lib.hid h
  have HV := Lib.hid hv
  have hl := hv.1
  clear hZ h hv
  go_enter Try.func53, Try.ntmps53
  have HR0 := Lib.hid (show ((w.alloc (.cells Z 60)).alloc (.cells Z 60)).heap[w.heap.size]? = some (.cells Z 60 (0, 0)) from by
    rw [Below.heap_alloc _ _ _ (by simp)]
    exact heap_alloc_last w _)
  have HO0 := Lib.hid (show OwnA ((w.alloc (.cells Z 60)).alloc (.cells Z 60)) (w.heap.size + 1) (circL []) from OwnA.of_heap (by
    have h := heap_alloc_last (w.alloc (.cells Z 60)) (.cells Z 60)
    rw [show (w.alloc (.cells Z 60)).heap.size = w.heap.size + 1 by simp] at h
    rw [h, HZZ.out, circL_nil]) (circL_len []))
  have HB0 := Lib.hid (show Below w.heap.size w ((w.alloc (.cells Z 60)).alloc (.cells Z 60)) from ((Below.refl _ _).alloc (Nat.le_refl _) _).alloc (by simp) _)
  have hzs : Z.size = 360 := by rw [HZZ.out]; simp [cirV_len]
  go_wp2_with (fail)
  go_loopw [8] (fun i wr => ∃ k : Nat, k ≤ ps.length ∧ i = .int .i64 k ∧ OwnA wr (w.heap.size + 1) (circL (ps.take k)) ∧ wr.heap[w.heap.size]? = some (.cells Z 60 (0, 0)) ∧ Below w.heap.size w wr) (fun i _ => ps.length - (intOf i).toNat)
  case atStart => exact ⟨0, Nat.zero_le _, rfl, HO0.out, HR0.out, HB0.out⟩
  case round =>
    obtain ⟨k, hk, rfl, ho, hr0, hbel⟩ := hrel
    by_cases hlt : k < ps.length
    · have hkn : (k : Int) < (ps.length : Int) := by omega
      obtain ⟨b, off, ha, hc⟩ := HC.out.2.resolve_left (by intro e; rw [e] at hlt; simp at hlt)
      subst ha
      obtain ⟨c0, c1, c2⟩ := SecAt.below (p := ps.getD k sec0) (hc k hlt) hbel
      have hok := okSec_ends (HV.out.2.1 k hlt).1
      have HT := Lib.hid (circL_take ps k hlt)
      have HOO := Lib.hid ho
      have HRR := Lib.hid hr0
      have HBB := Lib.hid hbel
      have HPN := Lib.hid (fun w' (h : OwnA w' (w.heap.size + 1) (circL (ps.take k))) => paint_any (w.heap.size + 1) (circL (ps.take k)) (ps.getD k sec0).1 (ps.getD k sec0).2.1 (ps.getD k sec0).2.2 w' h hok.1)
      rw [show ((ps.getD k sec0).1, (ps.getD k sec0).2.1, (ps.getD k sec0).2.2) = ps.getD k sec0 from rfl, ← HT.out] at HPN
      generalize (ps.getD k sec0).1 = f at *
      generalize (ps.getD k sec0).2.1 = t at *
      generalize (ps.getD k sec0).2.2 = x at *
      have hbx : Below wr.heap.size wr (wr.alloc (.cells #[.int .i64 f, .int .i64 t, .string x] 26)) := (Below.refl _ _).alloc (Nat.le_refl _) _
      have HO1 := Lib.hid (ho.below hbx)
      have HB1 := Lib.hid (Below.next hbel hbx)
      have hgs := ho.lt
      have HR1 := Lib.hid (show (wr.alloc (.cells #[.int .i64 f, .int .i64 t, .string x] 26)).heap[w.heap.size]? = some (.cells Z 60 (0, 0)) by rw [hbx.block _ (by omega)]; exact hr0)
      clear ho hr0 hbel hc hbx hok
      go_wp2_with (go_at_call 60; refine (HPN.out _ HO1.out).mono ?_; rintro e w2 ⟨rfl, ho2, hb2⟩; refine Hid.out ?_)
      refine Lib.hid ?_
      have HO2 := Lib.hid ho2
      have HR2 := Lib.hid (show w2.heap[w.heap.size]? = some (.cells Z 60 (0, 0)) by rw [hb2.block _ (by omega)]; exact HR1.out)
      have HB2 := Lib.hid (HB1.out.trans (hb2.mono (by omega)))
      clear ho2 hb2
      go_wp2_with (fail)
      go_roundw
      case rel => exact ⟨k + 1, by omega, by go_num, HO2.out, HR2.out, HB2.out⟩
      case measure => simp [intOf]; omega
    · obtain rfl : k = ps.length := by omega
      have HO2 := Lib.hid (show OwnA wr (w.heap.size + 1) (circL ps) by rw [List.take_of_length_le (Nat.le_refl _)] at ho; exact ho)
      have HR2 := Lib.hid hr0
      have HB2 := Lib.hid hbel
      have HLC := Lib.hid (circL_len ps)
      obtain ⟨C, hC⟩ : ∃ C, C = (cirV (circL ps)).toArray := ⟨_, rfl⟩
      have hcs : C.size = 360 := by rw [hC]; simp [cirV_len, HLC.out]
      have hone : C.all (·.oneCell') = true := by
        rw [hC]
        exact all_oneCell_toArray (fun v hv => by
          unfold cirV at hv
          obtain ⟨s, _, rfl⟩ := List.mem_map.1 hv
          rfl)
      have hg1 : wr.heap[w.heap.size + 1]? = some (.cells C 60 (0, 0)) := by rw [HO2.out.heap, hC]
      have HCC := Lib.hid hC
      have HSI := Lib.hid sizeArr
      have hlt2 := HO2.out.lt
      clear ho hr0 hbel hC
      go_wp2_with (first
        | (refine wpList_load_row rfl 60 _ rfl (w.heap.size + 1) rfl 60 C (0, 0) _ hg1 Try.underlying60 rfl (by rw [HSI.out, hcs]) ?_)
        | (refine wpList_store_row rfl 60 _ _ rfl w.heap.size C rfl rfl 60 Z HR2.out (by rw [HSI.out, hcs]) (by rw [hzs, hcs]) hone ?_))
      refine bodyPost_ret (results_cell_row rfl _ _ w.heap.size 60 C (0, 0) _ rfl (setRow_heap _ _ Z C _ _ HR2.out) Try.underlying60 rfl (by rw [HSI.out, hcs])) rfl ⟨by rw [HCC.out], below_setRow HB2.out (Nat.le_refl _) C⟩
theorem circle_any (v : Value) (ps : List Sec) (w : World) (hv : ValidS ps) (h : SecAre w v ps) :
    Calls Try.prog 53 #[v] w fun e w' => e = .returned (.agg (cirV (circL ps)).toArray) ∧ Below w.heap.size w w' := by
  obtain ⟨a, c, rfl, h⟩ := h
  exact circle_row a c ps w hv h
end Go.Proofs.Ytclbpjjnhfllkaa
