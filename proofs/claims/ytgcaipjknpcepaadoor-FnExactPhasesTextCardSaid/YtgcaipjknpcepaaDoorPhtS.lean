/- The text of phases: the model's. -/
import Derived.Test.YtgcaipjknpcepaaDoorPhtM
import Derived.Deep.RegionHeld3
namespace Go.Proofs.YtgcaipjknpcepaaDoor
open Go.ChangeShapes Go.WideShapes Go.ChangeAt Go.RowKit Pm
set_option maxHeartbeats 1000000 in
theorem sphtext_any (v : Value) (ps : List Ph) (w : World) (h : PhAre w v ps) (hv : ValP ps) :
    Calls Tryd.prog 68 #[v] w fun e w' => e = .returned (.string ⟨(phtJ ps).toArray⟩) ∧ Below w.heap.size w w' := by
  obtain ⟨a, c, rfl, h⟩ := h
  obtain ⟨b, off, rfl, hc⟩ := h.2.resolve_left (by intro e; have := hv.pos; rw [e] at this; simp at this)
  have HC := Lib.hid hc
  have HV := Lib.hid hv
  have h40 := hv.most
  clear hc h hv
  go_enter Tryd.func68, Tryd.ntmps68
  go_wp2_with (fail)
  go_loopw [3, 4] (fun o i wr => ∃ (k : Nat) (s : ByteArray), k ≤ ps.length ∧ i = .int .i64 k ∧ o = .string s ∧ s = ⟨(phtJ (ps.take k)).toArray⟩ ∧ s.size ≤ 24 * k ∧ Below w.heap.size w wr) (fun _ i _ => ps.length - (intOf i).toNat)
  case atStart => exact ⟨0, ⟨#[]⟩, Nat.zero_le _, rfl, rfl, rfl, Nat.le_refl _, Below.refl _ _⟩
  case round =>
    obtain ⟨k, s, hk, rfl, rfl, hs, hz, hbel⟩ := hrel
    have HS := Lib.hid hs
    have HB := Lib.hid hbel
    clear hs
    by_cases hlt : k < ps.length
    · have hkn : (k : Int) < (ps.length : Int) := by omega
      have c0 := cell_below (HC.out k hlt).1 hbel
      have c1 := cell_below (HC.out k hlt).2 hbel
      have hp := HV.out.at k hlt
      have hlen := HV.out.len _ hp
      have hcol := col_size (HV.out.col _ hp)
      have HTK := Lib.hid (ph_take ps k hlt)
      generalize ps.getD k ph0 = p at *
      obtain ⟨x, y⟩ := p
      simp only at c0 c1 hlen hcol
      obtain ⟨y0, y1⟩ := hlen
      have HD := Lib.hid (fun w => show Calls Tryd.prog 97 #[.int .i64 y] w fun e w' => e = .returned (.string (itoaS y)) ∧ Below w.heap.size w w' from sdec_any y w (by omega) (by omega))
      have hiz : (itoaS y).size ≤ 21 := by simpa [itoaS, ByteArray.size] using Lib.itoa_length_le y (by omega) (by omega)
      have HPS := Lib.hid (show phS (x, y) = sgnC x ++ itoaS y from rfl)
      obtain ⟨u, hu⟩ : ∃ u, u = itoaS y := ⟨_, rfl⟩
      rw [← hu] at HD hiz HPS
      clear hu hp
      have m1 : (⟨#[44]⟩ : ByteArray).size = 1 := rfl
      have m2 : (⟨#[45]⟩ : ByteArray).size = 1 := rfl
      cases he : x.toList.isEmpty
      · by_cases hk0 : k = 0
        · have hki : ¬ 0 < k := by omega
          have HK0 := Lib.hid hk0
          clear hk0
          have k1 := fun w => run_string_add_sum (P := Tryd.prog) (w := w) x u (by omega)
          have k2 := fun w => run_string_add_sum (P := Tryd.prog) (w := w) (s) (x ++ u) (by (try simp only [ByteArray.size_append]); omega)
          have HE := Lib.hid (show s ++ (x ++ u) = ⟨(phtJ (ps.take (k + 1))).toArray⟩ from WideShapes.bytes_inj (by
            rw [HTK.out, show ps.take k = [] by rw [HK0.out]; rfl, List.nil_append, phtJ_one]
            unfold phT
            rw [HPS.out, HS.out, HK0.out]
            unfold sgnC
            rw [he, if_neg (by simp)]
            simp [ByteArray.data_append, phtJ, Lib.join_nil]))
          go_wp2_with (fail)
          go_region_held3 (fun w' => w'.cell? ⟨b, off + k * 2, none⟩ = some (.string x) ∧ w'.cell? ⟨b, off + k * 2 + 1, none⟩ = some (.int .i64 y) ∧ Below w.heap.size w w')
            (first | assumption | exact keep2 (by assumption) (by assumption) | exact drew2 (by assumption) | exact ⟨c0, c1, HB.out⟩ | exact ⟨c0, c1, HB.out.drew⟩)
            (first
              | (go_at_call 97; refine (HD.out _).mono ?_; rintro e w1 ⟨rfl, hb⟩))
          go_wp2
          go_roundw
          case rel => exact ⟨k + 1, _, by omega, by go_num, rfl, HE.out, by simp only [ByteArray.size_append]; omega, keepB2 (by assumption)⟩
          case measure => simp [intOf]; omega
        · have hki : (0 : Int) < k := by omega
          have k1 := fun w => run_string_add_sum (P := Tryd.prog) (w := w) (s) ⟨#[44]⟩ (by (try simp only [ByteArray.size_append]); omega)
          have k2 := fun w => run_string_add_sum (P := Tryd.prog) (w := w) x u (by omega)
          have k3 := fun w => run_string_add_sum (P := Tryd.prog) (w := w) (s ++ ⟨#[44]⟩) (x ++ u) (by (try simp only [ByteArray.size_append]); omega)
          have HE := Lib.hid (show s ++ ⟨#[44]⟩ ++ (x ++ u) = ⟨(phtJ (ps.take (k + 1))).toArray⟩ from WideShapes.bytes_inj (by
            rw [HTK.out, phtJ_snoc _ _ (by intro e; have h9 := congrArg List.length e; rw [List.length_take, List.length_nil] at h9; omega)]
            unfold phT
            rw [HPS.out, HS.out]
            unfold sgnC
            rw [he, if_neg (by simp)]
            simp [ByteArray.data_append]))
          go_wp2_with (fail)
          go_region_held3 (fun w' => w'.cell? ⟨b, off + k * 2, none⟩ = some (.string x) ∧ w'.cell? ⟨b, off + k * 2 + 1, none⟩ = some (.int .i64 y) ∧ Below w.heap.size w w')
            (first | assumption | exact keep2 (by assumption) (by assumption) | exact drew2 (by assumption) | exact ⟨c0, c1, HB.out⟩ | exact ⟨c0, c1, HB.out.drew⟩)
            (first
              | (go_at_call 97; refine (HD.out _).mono ?_; rintro e w1 ⟨rfl, hb⟩))
          go_wp2
          go_roundw
          case rel => exact ⟨k + 1, _, by omega, by go_num, rfl, HE.out, by simp only [ByteArray.size_append]; omega, keepB2 (by assumption)⟩
          case measure => simp [intOf]; omega
      · by_cases hk0 : k = 0
        · have hki : ¬ 0 < k := by omega
          have HK0 := Lib.hid hk0
          clear hk0
          have k1 := fun w => run_string_add_sum (P := Tryd.prog) (w := w) (s) ⟨#[45]⟩ (by (try simp only [ByteArray.size_append]); omega)
          have k2 := fun w => run_string_add_sum (P := Tryd.prog) (w := w) x u (by omega)
          have k3 := fun w => run_string_add_sum (P := Tryd.prog) (w := w) (s ++ ⟨#[45]⟩) (x ++ u) (by (try simp only [ByteArray.size_append]); omega)
          have HE := Lib.hid (show s ++ ⟨#[45]⟩ ++ (x ++ u) = ⟨(phtJ (ps.take (k + 1))).toArray⟩ from WideShapes.bytes_inj (by
            rw [HTK.out, show ps.take k = [] by rw [HK0.out]; rfl, List.nil_append, phtJ_one]
            unfold phT
            rw [HPS.out, HS.out, HK0.out]
            unfold sgnC
            rw [he, if_pos rfl]
            have hx : x.data.toList = [] := by rw [← ByteArray.toList_eq]; exact List.isEmpty_iff.1 he
            simp [ByteArray.data_append, phtJ, Lib.join_nil, hx]))
          go_wp2_with (fail)
          go_region_held3 (fun w' => w'.cell? ⟨b, off + k * 2, none⟩ = some (.string x) ∧ w'.cell? ⟨b, off + k * 2 + 1, none⟩ = some (.int .i64 y) ∧ Below w.heap.size w w')
            (first | assumption | exact keep2 (by assumption) (by assumption) | exact drew2 (by assumption) | exact ⟨c0, c1, HB.out⟩ | exact ⟨c0, c1, HB.out.drew⟩)
            (first
              | (go_at_call 97; refine (HD.out _).mono ?_; rintro e w1 ⟨rfl, hb⟩))
          go_wp2
          go_roundw
          case rel => exact ⟨k + 1, _, by omega, by go_num, rfl, HE.out, by simp only [ByteArray.size_append]; omega, keepB2 (by assumption)⟩
          case measure => simp [intOf]; omega
        · have hki : (0 : Int) < k := by omega
          have k1 := fun w => run_string_add_sum (P := Tryd.prog) (w := w) (s) ⟨#[44]⟩ (by (try simp only [ByteArray.size_append]); omega)
          have k2 := fun w => run_string_add_sum (P := Tryd.prog) (w := w) (s ++ ⟨#[44]⟩) ⟨#[45]⟩ (by (try simp only [ByteArray.size_append]); omega)
          have k3 := fun w => run_string_add_sum (P := Tryd.prog) (w := w) x u (by omega)
          have k4 := fun w => run_string_add_sum (P := Tryd.prog) (w := w) (s ++ ⟨#[44]⟩ ++ ⟨#[45]⟩) (x ++ u) (by (try simp only [ByteArray.size_append]); omega)
          have HE := Lib.hid (show s ++ ⟨#[44]⟩ ++ ⟨#[45]⟩ ++ (x ++ u) = ⟨(phtJ (ps.take (k + 1))).toArray⟩ from WideShapes.bytes_inj (by
            rw [HTK.out, phtJ_snoc _ _ (by intro e; have h9 := congrArg List.length e; rw [List.length_take, List.length_nil] at h9; omega)]
            unfold phT
            rw [HPS.out, HS.out]
            unfold sgnC
            rw [he, if_pos rfl]
            have hx : x.data.toList = [] := by rw [← ByteArray.toList_eq]; exact List.isEmpty_iff.1 he
            simp [ByteArray.data_append, hx]))
          go_wp2_with (fail)
          go_region_held3 (fun w' => w'.cell? ⟨b, off + k * 2, none⟩ = some (.string x) ∧ w'.cell? ⟨b, off + k * 2 + 1, none⟩ = some (.int .i64 y) ∧ Below w.heap.size w w')
            (first | assumption | exact keep2 (by assumption) (by assumption) | exact drew2 (by assumption) | exact ⟨c0, c1, HB.out⟩ | exact ⟨c0, c1, HB.out.drew⟩)
            (first
              | (go_at_call 97; refine (HD.out _).mono ?_; rintro e w1 ⟨rfl, hb⟩))
          go_wp2
          go_roundw
          case rel => exact ⟨k + 1, _, by omega, by go_num, rfl, HE.out, by simp only [ByteArray.size_append]; omega, keepB2 (by assumption)⟩
          case measure => simp [intOf]; omega
    · have HE := Lib.hid (show s = ⟨(phtJ ps).toArray⟩ by rw [HS.out, List.take_of_length_le (by omega)])
      clear hbel
      go_wp2
      go_ret
      exact ⟨retS HE.out, HB.out⟩
end Go.Proofs.YtgcaipjknpcepaaDoor
