/- A letter's signs, its phases and their sum. -/
import Derived.Test.YtgnajfdcbpfdjaaDoorMrsP
import Derived.Test.YtgnajfdcbpfdjaaDoorLik
import Derived.Test.YtgnajfdcbpfdjaaDoorSndX
namespace Go.Proofs.YtgnajfdcbpfdjaaDoor
open Go.ChangeShapes Go.WideShapes Go.ChangeAt Go.RowKit Pm

/-- The sum of phases' lengths. -/
def sumP : List Ph → Int
  | [] => 0
  | p :: ps => p.2 + sumP ps
theorem sumP_app : ∀ a b : List Ph, sumP (a ++ b) = sumP a + sumP b
  | [], b => by simp [sumP]
  | p :: a, b => by
    have := sumP_app a b
    simp only [List.cons_append, sumP, this]; omega
theorem sumP_take {ps : List Ph} {k : Nat} (h : k < ps.length) : sumP (ps.take (k + 1)) = sumP (ps.take k) + (ps.getD k ph0).2 := by
  rw [ph_take ps k h, sumP_app]; simp [sumP]
theorem sgnU_unB (b : UInt8) : (sgnU b : Int) = unB b := by unfold sgnU unB; split <;> rfl

theorem sig_sum1 (c : ByteArray) (u : Int) : ∀ l : List UInt8, sumP (sigP c u 1 l) = (uS l + l.length) * u
  | [] => by simp [sigP, sumP, uS]
  | b :: l => by
    have h := sig_sum1 c u l
    rw [sigP, pauP_yes (by decide), sumP_app, sumP_app, h]
    simp only [sumP, uS, List.length_cons, sgnU_unB]
    have e : (((l.length + 1 : Nat)) : Int) = (l.length : Int) + 1 := by omega
    rw [e, Int.add_mul, Int.add_mul, Int.add_mul, Int.add_mul]
    simp only [Int.add_zero]
    omega
theorem sig_sum0 (c : ByteArray) (u : Int) {m : List UInt8} (hm : m ≠ []) : sumP (sigP c u 0 m) = ((m.length : Int) - 1 + uS m) * u := by
  cases m with
  | nil => exact absurd rfl hm
  | cons b l =>
    rw [sigP, pauP_no, List.nil_append, sumP_app, sig_sum1]
    simp only [sumP, uS, List.length_cons, sgnU_unB]
    have e : (((l.length + 1 : Nat)) : Int) - 1 + (unB b + uS l) = unB b + (uS l + l.length) := by omega
    rw [e]
    simp only [Int.add_zero, Int.add_mul]
theorem sig_len1 (c : ByteArray) (u : Int) : ∀ l : List UInt8, (sigP c u 1 l).length = 2 * l.length
  | [] => rfl
  | b :: l => by
    have h := sig_len1 c u l
    rw [sigP, pauP_yes (by decide)]
    simp only [List.length_append, List.length_cons, List.length_nil, h]
    omega
theorem sig_len0 (c : ByteArray) (u : Int) {m : List UInt8} (hm : m ≠ []) : (sigP c u 0 m).length + 1 = 2 * m.length := by
  cases m with
  | nil => exact absurd rfl hm
  | cons b l =>
    rw [sigP, pauP_no]
    simp only [List.nil_append, List.length_append, List.length_cons, List.length_nil, sig_len1]
    omega
theorem sig_bd (c : ByteArray) (u : Int) (u0 : 1 ≤ u) (u1 : u ≤ 50) : ∀ (l : List UInt8) (g : Nat), g ≤ 1 → ∀ p ∈ sigP c u g l, 1 ≤ p.2 ∧ p.2 ≤ 150
  | [], _, _ => fun p hp => by simp [sigP] at hp
  | b :: l, g, hg => fun p hp => by
    rw [sigP] at hp
    rcases List.mem_append.1 hp with hp | hp
    · rcases List.mem_append.1 hp with hp | hp
      · unfold pauP at hp
        split at hp
        · obtain rfl : g = 1 := by omega
          simp only [List.mem_singleton] at hp
          subst hp
          exact ⟨by simp; omega, by simp; omega⟩
        · simp at hp
      · simp only [List.mem_singleton] at hp
        subst hp
        have := unB_bd b
        rw [show ((c, (sgnU b : Int) * u) : Ph).2 = unB b * u by rw [← sgnU_unB]]
        have a : unB b * u ≤ 3 * u := Int.mul_le_mul_of_nonneg_right (by omega) (by omega)
        have d : 1 * u ≤ unB b * u := Int.mul_le_mul_of_nonneg_right (by omega) (by omega)
        omega
    · exact sig_bd c u u0 u1 l 1 (by omega) p hp
theorem sum_le_bd : ∀ ps : List Ph, (∀ p ∈ ps, 1 ≤ p.2 ∧ p.2 ≤ 150) → 0 ≤ sumP ps ∧ sumP ps ≤ 150 * ps.length
  | [], _ => by simp [sumP]
  | p :: ps, h => by
    have := sum_le_bd ps (fun q hq => h q (List.mem_cons_of_mem _ hq))
    have := h p List.mem_cons_self
    simp only [sumP, List.length_cons]
    omega

/-! ### A letter -/
theorem cap_sent : ∀ r : Nat, r < 26 → sntB (capS r) = true ∧ (capS r).data.toList = [UInt8.ofNat (65 + r)] ∧ ¬ UInt8.ofNat (65 + r) = 32 ∧ (UInt8.ofNat (65 + r)).toNat - 65 = r := by decide +kernel
theorem like_facts : ∀ r : Nat, r < 26 → likC (morseS r) = 0 ∧ 1 ≤ (likV (morseS r)).size ∧ (likV (morseS r)).size ≤ 26 := by decide +kernel
theorem unt_bd {r : Nat} (h : r < 26) : 0 ≤ untV r ∧ untV r ≤ 15 := by
  obtain ⟨a, b, _⟩ := morse_facts r h
  have := uS_bd (morseB r)
  unfold untV
  omega

/-- What a law's walk wants of a letter: its texts, its phases. -/
theorem letter_facts (r : Nat) (u : Int) (c : ByteArray) (hr : r < 26) (u0 : 1 ≤ u) (u1 : u ≤ 50) (hc : colB c = true) :
    ∃ (s g k : ByteArray) (n : Int) (L : List Ph), s = capS r ∧ signsV s = g ∧ morC s = 0 ∧ findV g = s ∧ finC g = 0 ∧ likV g = k ∧ likC g = 0 ∧ 1 ≤ k.size ∧ k.size ≤ 26 ∧ lenV s = n ∧ g.size ≤ 4 ∧
      sndV s c u = L ∧ sndC s c u = 0 ∧ (L.length : Int) = 2 * (g.size : Int) - 1 ∧ 1 ≤ L.length ∧ L.length ≤ 8 ∧ (∀ i, i < L.length → 1 ≤ (L.getD i ph0).2 ∧ (L.getD i ph0).2 ≤ 150) ∧
      (∀ j, j ≤ L.length → 0 ≤ sumP (L.take j) ∧ sumP (L.take j) ≤ 1200) ∧ sumP L = n * u ∧ 0 ≤ n ∧ n ≤ 15 := by
  obtain ⟨f1, f2, f3⟩ := morse_facts r hr
  obtain ⟨c1, c2, c3, c4⟩ := cap_sent r hr
  obtain ⟨k1, k2, k3⟩ := like_facts r hr
  have hne : morseB r ≠ [] := (morse_signs r hr).2
  have hcn := capN_cap r hr
  have hsg : signsV (capS r) = morseS r := signsV_cap r hr
  have hfn : findN (morseS r) = some r := findN_at hr rfl
  have hin : inB 1 50 [u] = true := by simp [inB]; omega
  have hsv : sndV (capS r) c u = sigP c u 0 (morseB r) := by
    unfold sndV
    rw [c1, hc, hin, if_pos (by rfl), if_pos rfl, c2, sndP, if_neg c3, c4, sndP, List.append_nil]
  have hl := sig_len0 c u hne
  have hbd := sig_bd c u u0 u1 (morseB r) 0 (by omega)
  have hs := sig_sum0 c u hne
  refine ⟨_, _, _, _, _, rfl, rfl, ?_, ?_, ?_, rfl, ?_, ?_, ?_, rfl, ?_, rfl, ?_, ?_, ?_, ?_, ?_, ?_, ?_, ?_, ?_⟩
  · unfold morC; rw [hcn]; rfl
  · rw [hsg]; unfold findV; rw [hfn]
  · rw [hsg]; unfold finC; rw [hfn]; rfl
  · rw [hsg]; exact k1
  · rw [hsg]; exact k2
  · rw [hsg]; exact k3
  · rw [hsg, morseS_size]; exact f2
  · unfold sndC; rw [c1, hc, hin]; rfl
  · rw [hsv, hsg, morseS_size]; omega
  · rw [hsv]; omega
  · rw [hsv]; omega
  · rw [hsv]
    intro i hi
    rw [ph_getD _ i hi]
    exact hbd _ (List.getElem_mem hi)
  · rw [hsv]
    intro j hj
    have := sum_le_bd ((sigP c u 0 (morseB r)).take j) (fun p hp => hbd p (List.mem_of_mem_take hp))
    rw [List.length_take] at this
    omega
  · rw [hsv, hs]; unfold lenV; rw [hcn]; rfl
  · unfold lenV; rw [hcn]; exact (unt_bd hr).1
  · unfold lenV; rw [hcn]; exact (unt_bd hr).2

/-- What it wants of a text that can be sent. -/
theorem text_facts (l : List UInt8) (u : Int) (c : ByteArray) (hl : okF true l = true) (h12 : l.length ≤ 12) (u0 : 1 ≤ u) (u1 : u ≤ 50) (hc : colB c = true) :
    ∃ L, sndV ⟨l.toArray⟩ c u = L ∧ sndC ⟨l.toArray⟩ c u = 0 ∧ L.length ≤ 96 ∧ txtO (splE L u) = some l := by
  have hd : (⟨l.toArray⟩ : ByteArray).data.toList = l := rfl
  have hs : sntB ⟨l.toArray⟩ = true := by
    unfold sntB
    rw [hd, hl]
    simpa [ByteArray.size] using h12
  have hin : inB 1 50 [u] = true := by simp [inB]; omega
  have hsv : sndV ⟨l.toArray⟩ c u = sndP c u 0 l := by
    unfold sndV
    rw [hs, hc, hin, if_pos (by rfl), if_pos rfl]
  refine ⟨_, rfl, ?_, ?_, ?_⟩
  · unfold sndC; rw [hs, hc, hin]; rfl
  · rw [hsv]
    have := sndP_len c u l 0 (okF_all l true hl).1
    omega
  · rw [hsv]; exact txt_snd hc u0 l hl h12
end Go.Proofs.YtgnajfdcbpfdjaaDoor
