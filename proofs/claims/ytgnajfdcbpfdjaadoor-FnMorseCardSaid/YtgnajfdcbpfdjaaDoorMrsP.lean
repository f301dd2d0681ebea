/- What is sent is read: the model, no Go in sight (for FnMorse). -/
import Derived.Test.YtgnajfdcbpfdjaaDoorRsgP
import Derived.Test.YtgnajfdcbpfdjaaDoorSndM
namespace Go.Proofs.YtgnajfdcbpfdjaaDoor
open Go.ChangeShapes Go.WideShapes Go.ChangeAt Go.RowKit Pm

theorem splL_app (a b : List Ph) (u : Int) : splL (a ++ b) u = splL a u ++ splL b u := by unfold splL; rw [List.flatMap_append]
/-- What a pause adds to a spelling. -/
def glU (g : Nat) : List UInt8 := if g = 3 then [32] else if g = 7 then [32, 47, 32] else []
theorem splL_pau {g : Nat} (hg : g = 0 ∨ g = 1 ∨ g = 3 ∨ g = 7) {u : Int} (h1 : 1 ≤ u) : splL (pauP g u) u = glU g := by
  have he : (⟨#[]⟩ : ByteArray).toList.isEmpty = true := by rw [ByteArray.toList_eq]; rfl
  have hc : ¬ colB ⟨#[]⟩ = true := fun h => by rw [col_empty he] at h; cases h
  rcases hg with rfl | rfl | rfl | rfl
  · rfl
  · unfold splL pauP partL prtO glU; simp [hc]
  · have h3 : ¬ (3 : Int) * u = u := by omega
    unfold splL pauP partL prtO glU; simp [hc, h3]
  · have h3 : ¬ (7 : Int) * u = u := by omega
    have h4 : ¬ (7 : Int) * u = 3 * u := by omega
    unfold splL pauP partL prtO glU; simp [hc, h3, h4]
theorem splL_sgn {c : ByteArray} (hc : colB c = true) {u : Int} (h1 : 1 ≤ u) {b : UInt8} (hb : b = 46 ∨ b = 45) : splL [(c, (sgnU b : Int) * u)] u = [b] := by
  rcases hb with rfl | rfl
  · unfold splL partL prtO sgnU; simp [hc]
  · have h3 : ¬ (3 : Int) * u = u := by omega
    unfold splL partL prtO sgnU; simp [hc, h3]
theorem splL_sig {c : ByteArray} (hc : colB c = true) {u : Int} (h1 : 1 ≤ u) : ∀ (m : List UInt8) (g : Nat), (g = 0 ∨ g = 1 ∨ g = 3 ∨ g = 7) → (∀ b ∈ m, b = 46 ∨ b = 45) → m ≠ [] → splL (sigP c u g m) u = glU g ++ m
  | [], _, _, _, h => absurd rfl h
  | b :: r, g, hg, hm, _ => by
    rw [sigP, splL_app, splL_app, splL_pau hg h1, splL_sgn hc h1 (hm b (by simp))]
    cases r with
    | nil => simp [sigP, splL]
    | cons d r =>
      rw [splL_sig hc h1 (d :: r) 1 (.inr (.inl rfl)) (fun y hy => hm y (by simp only [List.mem_cons] at hy ⊢; exact .inr hy)) (by simp)]
      simp [glU]
theorem morse_signs : ∀ r, r < 26 → (∀ b ∈ morseB r, b = 46 ∨ b = 45) ∧ morseB r ≠ [] := by decide
theorem splL_snd {c : ByteArray} (hc : colB c = true) {u : Int} (h1 : 1 ≤ u) : ∀ l : List UInt8, (okF false l = true → splL (sndP c u 3 l) u = spR l) ∧ (okF true l = true → splL (sndP c u 7 l) u = [32, 47] ++ spR l)
  | [] => ⟨fun _ => rfl, fun h => by cases h⟩
  | x :: r => by
    have ih := splL_snd hc h1 r
    rw [okF_cons, okF_cons]
    by_cases hx : x = 32
    · rw [if_pos hx, if_pos hx]
      refine ⟨fun h => ?_, fun h => by cases h⟩
      rw [sndP, if_pos hx, ih.2 (by simpa using h), hx]
      simp [spR, partB]
    · rw [if_neg hx, if_neg hx]
      have key : ∀ g, (g = 0 ∨ g = 1 ∨ g = 3 ∨ g = 7) → (capB x && okF false r) = true → splL (sndP c u g (x :: r)) u = glU g ++ (partB x ++ spR r) := by
        intro g hg h
        rw [Bool.and_eq_true] at h
        obtain ⟨k, hk, hxk⟩ := cap_num h.1
        have hm := morse_signs k hk
        rw [sndP, if_neg hx, splL_app, ih.1 h.2, show x.toNat - 65 = k by omega, splL_sig hc h1 _ g hg hm.1 hm.2]
        unfold partB
        rw [if_neg hx, show x.toNat - 65 = k by omega, List.append_assoc]
      refine ⟨fun h => ?_, fun h => ?_⟩
      · rw [key 3 (by simp) h]; simp [glU, spR]
      · rw [key 7 (by simp) h]; simp [glU, spR]
theorem part_no32 {x : UInt8} (h : x = 32 ∨ capB x = true) : (32 : UInt8) ∉ partB x := by
  rcases h with rfl | h
  · decide
  · obtain ⟨k, hk, hxk⟩ := cap_num h
    have hx : x ≠ 32 := fun e => by rw [e] at hxk; have : (32 : UInt8).toNat = 32 := rfl; omega
    unfold partB
    rw [if_neg hx, show x.toNat - 65 = k by omega]
    intro hm
    rcases (morse_signs k hk).1 32 hm with e | e <;> cases e
theorem cut_sp : ∀ (r : List UInt8) (x : UInt8), (∀ y ∈ x :: r, y = 32 ∨ capB y = true) → cutAt 32 (partB x ++ spR r) = (x :: r).map partB
  | [], x, h => by
    rw [show spR [] = [] from rfl, List.append_nil, cutAt_miss 32 _ (part_no32 (h x (by simp)))]; rfl
  | y :: r, x, h => by
    rw [show spR (y :: r) = 32 :: (partB y ++ spR r) by simp [spR], cutAt_hit 32 _ _ (part_no32 (h x (by simp))), cut_sp r y (fun z hz => h z (by simp only [List.mem_cons] at hz ⊢; exact .inr hz))]
    rfl
theorem let1_part {x : UInt8} (h : x = 32 ∨ capB x = true) : let1 (partB x) = some [x] := by
  rcases h with rfl | h
  · rfl
  · obtain ⟨k, hk, hxk⟩ := cap_num h
    have hx : x ≠ 32 := fun e => by rw [e] at hxk; have : (32 : UInt8).toNat = 32 := rfl; omega
    have h47 : morseB k ≠ [47] := fun e => by
      have := (morse_signs k hk).1 47 (by rw [e]; simp)
      rcases this with e | e <;> cases e
    unfold partB let1 findL
    rw [if_neg hx, show x.toNat - 65 = k by omega, if_neg h47, findN_at (t := ⟨(morseB k).toArray⟩) hk (by simp)]
    simp only [Option.map_some]
    rw [← hxk, UInt8.ofNat_toNat]
theorem lets_part : ∀ (l a : List UInt8), (∀ y ∈ l, y = 32 ∨ capB y = true) → (l.map partB).foldl letF (some a) = some (a ++ l)
  | [], a, _ => by simp
  | x :: r, a, h => by
    rw [List.map_cons, List.foldl_cons, show letF (some a) (partB x) = some (a ++ [x]) by unfold letF; rw [let1_part (h x (by simp))]; rfl, lets_part r _ (fun y hy => h y (by simp [hy]))]
    simp
/-- Signs and pauses in turn; e: a pause is next. -/
def altB (u : Int) : Bool → List Ph → Bool
  | _, [] => true
  | e, p :: r => (prtO p u).isSome && (p.1.toList.isEmpty == e) && altB u (!e) r
theorem alt_ok (u : Int) : ∀ (ps : List Ph) (e : Bool), altB u e ps = true → ∀ i, i < ps.length → ((prtO (ps.getD i ph0) u).isSome && ((ps.getD i ph0).1.toList.isEmpty == (e != decide (i % 2 = 1)))) = true
  | [], _, _, i, h => by cases h
  | p :: r, e, h, 0, _ => by
    rw [altB, Bool.and_eq_true] at h
    have := h.1
    simpa using this
  | p :: r, e, h, i + 1, hi => by
    rw [altB, Bool.and_eq_true] at h
    have ih := alt_ok u r (!e) h.2 i (by simpa using hi)
    have e2 : ((!e) != decide (i % 2 = 1)) = (e != decide ((i + 1) % 2 = 1)) := by
      rcases Nat.mod_two_eq_zero_or_one i with h | h
      · have h2 : (i + 1) % 2 = 1 := by omega
        rw [h, h2]; cases e <;> rfl
      · have h2 : (i + 1) % 2 = 0 := by omega
        rw [h, h2]; cases e <;> rfl
    rw [e2] at ih
    simpa using ih
theorem alt_app (u : Int) : ∀ (a b : List Ph) (e : Bool), a.length % 2 = 0 → altB u e a = true → altB u e b = true → altB u e (a ++ b) = true
  | [], _, _, _, _, h => h
  | [p], _, _, h, _, _ => by simp at h
  | p :: q :: a, b, e, hl, ha, hb => by
    rw [altB, Bool.and_eq_true] at ha
    obtain ⟨h1, h2⟩ := ha
    rw [altB, Bool.and_eq_true] at h2
    obtain ⟨h2, h3⟩ := h2
    rw [Bool.not_not] at h3
    have ih := alt_app u a b e (by simp at hl; omega) h3 hb
    rw [List.cons_append, List.cons_append, altB, altB, Bool.not_not, h1, h2, ih]; rfl
theorem sgn_some {c : ByteArray} (hc : colB c = true) {u : Int} {b : UInt8} (hb : b = 46 ∨ b = 45) : (prtO (c, (sgnU b : Int) * u) u).isSome = true ∧ c.toList.isEmpty = false := by
  refine ⟨?_, ?_⟩
  · rcases hb with rfl | rfl
    · unfold prtO sgnU; simp [hc]
    · unfold prtO sgnU; simp only [hc, if_true, true_and]; split <;> simp
  · cases e : c.toList.isEmpty
    · rfl
    · rw [col_empty e] at hc; cases hc
theorem pau_some {g : Nat} (hg : g = 1 ∨ g = 3 ∨ g = 7) (u : Int) : (prtO (⟨#[]⟩, (g : Int) * u) u).isSome = true ∧ (⟨#[]⟩ : ByteArray).toList.isEmpty = true := by
  have he : (⟨#[]⟩ : ByteArray).toList.isEmpty = true := by rw [ByteArray.toList_eq]; rfl
  have hc : ¬ colB ⟨#[]⟩ = true := fun h => by rw [col_empty he] at h; cases h
  refine ⟨?_, he⟩
  unfold prtO
  rcases hg with rfl | rfl | rfl <;> simp only [hc, he, true_and] <;> (repeat (first | rfl | split)) <;> (exfalso; simp_all)
theorem sig_alt {c : ByteArray} (hc : colB c = true) (u : Int) : ∀ (m : List UInt8) (g : Nat), (g = 1 ∨ g = 3 ∨ g = 7) → (∀ b ∈ m, b = 46 ∨ b = 45) → altB u true (sigP c u g m) = true ∧ (sigP c u g m).length % 2 = 0
  | [], _, _, _ => ⟨rfl, rfl⟩
  | b :: r, g, hg, hm => by
    have ih := sig_alt hc u r 1 (.inl rfl) (fun y hy => hm y (by simp [hy]))
    have h1 := sgn_some hc (u := u) (hm b (by simp))
    have h2 := pau_some hg u
    rw [sigP, pauP_yes (by omega)]
    refine ⟨?_, ?_⟩
    · simp only [List.cons_append, List.nil_append, altB, h1.1, h1.2, h2.1, h2.2, Bool.not_true, Bool.not_false, ih.1]; rfl
    · simp only [List.length_append, List.length_cons, List.length_nil]; omega
theorem snd_alt {c : ByteArray} (hc : colB c = true) (u : Int) : ∀ l : List UInt8, (okF false l = true → altB u true (sndP c u 3 l) = true ∧ (sndP c u 3 l).length % 2 = 0) ∧ (okF true l = true → altB u true (sndP c u 7 l) = true ∧ (sndP c u 7 l).length % 2 = 0)
  | [] => ⟨fun _ => ⟨rfl, rfl⟩, fun h => by cases h⟩
  | x :: r => by
    have ih := snd_alt hc u r
    rw [okF_cons, okF_cons]
    by_cases hx : x = 32
    · rw [if_pos hx, if_pos hx]
      refine ⟨fun h => ?_, fun h => by cases h⟩
      rw [sndP, if_pos hx]
      exact ih.2 (by simpa using h)
    · rw [if_neg hx, if_neg hx]
      have key : ∀ g, (g = 1 ∨ g = 3 ∨ g = 7) → (capB x && okF false r) = true → altB u true (sndP c u g (x :: r)) = true ∧ (sndP c u g (x :: r)).length % 2 = 0 := by
        intro g hg h
        rw [Bool.and_eq_true] at h
        obtain ⟨k, hk, hxk⟩ := cap_num h.1
        have hm := morse_signs k hk
        have h2 := sig_alt hc u (morseB k) g hg hm.1
        have h3 := ih.1 h.2
        rw [sndP, if_neg hx, show x.toNat - 65 = k by omega]
        exact ⟨alt_app u _ _ true h2.2 h2.1 h3.1, by rw [List.length_append]; omega⟩
      exact ⟨fun h => key 3 (by simp) h, fun h => key 7 (by simp) h⟩
/-- What is sent is read. -/
theorem txt_snd {c : ByteArray} (hc : colB c = true) {u : Int} (h1 : 1 ≤ u) (l : List UInt8) (hl : okF true l = true) (h12 : l.length ≤ 12) : txtO (splE (sndP c u 0 l) u) = some l := by
  cases l with
  | nil => cases hl
  | cons x r =>
    have hall := (okF_all (x :: r) true hl).1
    rw [okF_cons] at hl
    by_cases hx : x = 32
    · rw [if_pos hx] at hl; cases hl
    rw [if_neg hx, Bool.and_eq_true] at hl
    obtain ⟨k, hk, hxk⟩ := cap_num hl.1
    have hm := morse_signs k hk
    have hsp : splL (sndP c u 0 (x :: r)) u = partB x ++ spR r := by
      rw [sndP, if_neg hx, splL_app, (splL_snd hc h1 r).1 hl.2, show x.toNat - 65 = k by omega, splL_sig hc h1 _ 0 (.inl rfl) hm.1 hm.2]
      unfold partB
      rw [if_neg hx, show x.toNat - 65 = k by omega]; rfl
    have hok : OkAll (sndP c u 0 (x :: r)) u := by
      have h3 := (snd_alt hc u r).1 hl.2
      rw [sndP, if_neg hx, show x.toNat - 65 = k by omega]
      obtain ⟨b, m, e⟩ : ∃ b m, morseB k = b :: m := by
        cases e : morseB k with
        | nil => exact absurd e hm.2
        | cons b m => exact ⟨b, m, rfl⟩
      rw [e] at hm ⊢
      have hs := sgn_some hc (u := u) (hm.1 b (by simp))
      have h4 := sig_alt hc u m 1 (.inl rfl) (fun y hy => hm.1 y (by simp [hy]))
      have h5 := alt_app u _ _ true h4.2 h4.1 h3.1
      have e2 : sigP c u 0 (b :: m) ++ sndP c u 3 r = (c, (sgnU b : Int) * u) :: (sigP c u 1 m ++ sndP c u 3 r) := by rw [sigP, pauP_no]; simp
      rw [e2]
      have ha : altB u false ((c, (sgnU b : Int) * u) :: (sigP c u 1 m ++ sndP c u 3 r)) = true := by
        simp only [altB, hs.1, hs.2, Bool.not_false, h5]; rfl
      refine ⟨by rw [List.length_cons, List.length_append]; omega, fun i hi => ?_⟩
      have h6 := alt_ok u _ false ha i hi
      unfold okP
      simpa using h6
    unfold txtO
    rw [splE_yes hok, hsp, cut_sp r x hall, if_pos (by simpa using h12)]
    have h7 := lets_part (x :: r) [] hall
    simpa [lets] using h7
end Go.Proofs.YtgnajfdcbpfdjaaDoor
