/- Plain facts for chapter 2: the table of sines, the vectors of the directions, the greatest of some values. No Go in sight. -/
namespace Go.Proofs.YthccbipjmheoaaaDoor.Pm

/-- The sines of 0 to 90 degrees. -/
def sinTab : List Int := [0, 17452, 34899, 52336, 69756, 87156, 104528, 121869, 139173, 156434, 173648, 190809, 207912, 224951, 241922, 258819, 275637, 292372, 309017, 325568, 
  342020, 358368, 374607, 390731, 406737, 422618, 438371, 453990, 469472, 484810, 500000, 515038, 529919, 544639, 559193, 573576, 587785, 601815, 
  615661, 629320, 642788, 656059, 669131, 681998, 694658, 707107, 719340, 731354, 743145, 754710, 766044, 777146, 788011, 798636, 809017, 819152, 
  829038, 838671, 848048, 857167, 866025, 874620, 882948, 891007, 898794, 906308, 913545, 920505, 927184, 933580, 939693, 945519, 951057, 956305, 
  961262, 965926, 970296, 974370, 978148, 981627, 984808, 987688, 990268, 992546, 994522, 996195, 997564, 998630, 999391, 999848, 1000000]

/-- The same angle from 0 to 359. -/
def ang (d : Int) : Int := d % 360
/-- The sine of 0 to 90 degrees. -/
def sinL (a : Int) : Int := sinTab.getD a.toNat 0
/-- The sine of 0 to 180 degrees. -/
def sinH (a : Int) : Int := if 180 - a < a then sinL (180 - a) else sinL a
/-- The sine of an angle. -/
def sinR (d : Int) : Int := if ang d < 180 then sinH (ang d) else -sinH (ang d - 180)
def cosR (d : Int) : Int := sinR (ang d + 90)

theorem ang_bd (d : Int) : 0 ≤ ang d ∧ ang d < 360 := by unfold ang; omega
theorem ang_in {d : Int} (h0 : 0 ≤ d) (h1 : d < 360) : ang d = d := by unfold ang; omega
theorem sin_ang (d : Int) : sinR (ang d) = sinR d := by
  have : ang (ang d) = ang d := by unfold ang; omega
  unfold sinR; rw [this]
theorem sin_same {d e : Int} (h : ang d = ang e) : sinR d = sinR e := by rw [← sin_ang d, h, sin_ang]
theorem cos_eq (d : Int) : cosR d = sinR (d + 90) := sin_same (by unfold ang; omega)
theorem sin_half (d : Int) : sinR (d + 180) = -sinR d := by
  have hb := ang_bd d
  have h : ang (d + 180) = if ang d < 180 then ang d + 180 else ang d - 180 := by unfold ang; omega
  unfold sinR
  rw [h]
  by_cases h1 : ang d < 180
  · rw [if_pos h1, if_pos h1, if_neg (by omega)]; congr 2; omega
  · rw [if_neg h1, if_neg h1, if_pos (by omega)]; simp

theorem tab_bd : (sinTab.all fun z => decide (0 ≤ z) && decide (z ≤ 1000000)) = true := by decide +kernel
theorem tab_len : sinTab.length = 91 := by decide +kernel
theorem sinL_bd (a : Int) : 0 ≤ sinL a ∧ sinL a ≤ 1000000 := by
  unfold sinL
  by_cases h : a.toNat < sinTab.length
  · have := List.all_eq_true.1 tab_bd sinTab[a.toNat] (List.getElem_mem h)
    rw [List.getD_eq_getElem?_getD, List.getElem?_eq_getElem h]
    simpa using this
  · rw [List.getD_eq_getElem?_getD, List.getElem?_eq_none (by omega)]; simp
theorem sinH_bd (a : Int) : 0 ≤ sinH a ∧ sinH a ≤ 1000000 := by
  unfold sinH; split <;> exact sinL_bd _
theorem sin_bd (d : Int) : -1000000 ≤ sinR d ∧ sinR d ≤ 1000000 := by
  unfold sinR
  split
  · have := sinH_bd (ang d); omega
  · have := sinH_bd (ang d - 180); omega

/-- The vectors of the directions 0 to 539. -/
def uL : List (Int × Int) := (List.range 540).map fun k : Nat => (sinR (k : Int), sinR ((k : Int) + 90))
theorem uL_len : uL.length = 540 := by simp [uL]
theorem uL_at (k : Nat) (h : k < uL.length) : uL[k] = (sinR k, sinR (k + 90)) := by simp [uL]

def cr (a b : Int × Int) : Int := a.2 * b.1 - a.1 * b.2
def dt (a b : Int × Int) : Int := a.1 * b.1 + a.2 * b.2

def conv1 (x m : Int × Int) : List (Int × Int) → Nat → Bool
  | z :: r, n + 1 => decide (0 ≤ cr x z) && decide (cr x z < cr m z + cr x m) && conv1 x m r n
  | _, _ => true
def convAll : List (Int × Int) → Nat → Bool
  | x :: m :: r, n + 1 => conv1 x m r 178 && convAll (m :: r) n
  | _, _ => true
theorem conv_ok : convAll uL 360 = true := by decide +kernel

theorem conv1_out (x m : Int × Int) : ∀ (l : List (Int × Int)) (n : Nat), conv1 x m l n = true → ∀ (j : Nat) (h : j < l.length), j < n → 0 ≤ cr x l[j] ∧ cr x l[j] < cr m l[j] + cr x m
  | [], _, _, _, h, _ => by simp at h
  | z :: r, 0, _, _, _, hn => by omega
  | z :: r, n + 1, hc, j, h, hn => by
    simp only [conv1, Bool.and_eq_true, decide_eq_true_eq] at hc
    cases j with
    | zero => exact hc.1
    | succ j => simpa using conv1_out x m r n hc.2 j (by simpa using h) (by omega)
theorem convAll_out : ∀ (l : List (Int × Int)) (n : Nat), convAll l n = true → ∀ (i k : Nat) (h : i + k < l.length), i < n → ∀ (_ : 2 ≤ k), k < 180 →
    0 ≤ cr (l[i]'(by omega)) l[i + k] ∧ cr (l[i]'(by omega)) l[i + k] < cr (l[i + 1]'(by omega)) l[i + k] + cr (l[i]'(by omega)) (l[i + 1]'(by omega))
  | [], _, _, _, _, h, _, _, _ => by simp at h
  | [_], _, _, _, _, h, _, _, _ => by simp at h; omega
  | _ :: _ :: _, 0, _, _, _, _, h, _, _ => by omega
  | x :: m :: r, n + 1, hc, i, k, h, hn, k2, k3 => by
    simp only [convAll, Bool.and_eq_true] at hc
    cases i with
    | zero =>
      obtain ⟨j, rfl⟩ : ∃ j, k = j + 2 := ⟨k - 2, by omega⟩
      have := conv1_out x m r 178 hc.1 j (by simp at h; omega) (by omega)
      simpa using this
    | succ i =>
      have := convAll_out (m :: r) n hc.2 i k (by simp at h ⊢; omega) (by omega) k2 k3
      simpa [Nat.add_right_comm i 1 k] using this

def near1 (u v : Int × Int) : Bool :=
  decide (0 < cr u v) && decide (10000 * (dt u u - dt u v) ≤ 89 * cr u v) && decide (10000 * (dt v v - dt u v) ≤ 89 * cr u v) && decide (999997000000 < dt u u) && decide (dt u u < 1000003000000)
def nearAll : List (Int × Int) → Nat → Bool
  | u :: v :: r, n + 1 => near1 u v && nearAll (v :: r) n
  | _, _ => true
theorem near_ok : nearAll uL 361 = true := by decide +kernel
theorem nearAll_out : ∀ (l : List (Int × Int)) (n : Nat), nearAll l n = true → ∀ (i : Nat) (h : i + 1 < l.length), i < n → near1 (l[i]'(by omega)) l[i + 1] = true
  | [], _, _, _, h, _ => by simp at h
  | [_], _, _, _, h, _ => by simp at h
  | _ :: _ :: _, 0, _, _, _, h => by omega
  | x :: m :: r, n + 1, hc, i, h, hn => by
    simp only [nearAll, Bool.and_eq_true] at hc
    cases i with
    | zero => simpa using hc.1
    | succ i => exact nearAll_out (m :: r) n hc.2 i (by simpa using h) (by omega)

/-- The vector of a direction. -/
def uv (d : Int) : Int × Int := (sinR d, sinR (d + 90))
theorem uv_ang (d : Int) : uv (ang d) = uv d := by
  unfold uv
  rw [sin_ang, sin_same (d := ang d + 90) (e := d + 90) (by unfold ang; omega)]
theorem uv_nat {d : Int} (k : Nat) (h : ang d = k) (hk : k < uL.length) : uv d = uL[k] := by
  rw [uL_at, ← uv_ang d, h]; rfl
theorem uv_of {d : Int} (k : Nat) (h : ang d = ang k) (hk : k < uL.length) : uv d = uL[k] := by
  rw [uL_at, ← uv_ang d, h, uv_ang]; rfl

theorem conv_at (d k : Int) (h2 : 2 ≤ k) (h3 : k < 180) :
    0 ≤ cr (uv d) (uv (d + k)) ∧ cr (uv d) (uv (d + k)) < cr (uv (d + 1)) (uv (d + k)) + cr (uv d) (uv (d + 1)) := by
  have hb := ang_bd d
  have hl := uL_len
  have := convAll_out uL 360 conv_ok (ang d).toNat k.toNat (by omega) (by omega) (by omega) (by omega)
  rw [← uv_of (d := d) (ang d).toNat (by unfold ang; omega), ← uv_of (d := d + 1) ((ang d).toNat + 1) (by unfold ang; omega), ← uv_of (d := d + k) ((ang d).toNat + k.toNat) (by unfold ang; omega)] at this
  exact this
theorem near_at (d : Int) : 0 < cr (uv d) (uv (d + 1)) ∧ 10000 * (dt (uv d) (uv d) - dt (uv d) (uv (d + 1))) ≤ 89 * cr (uv d) (uv (d + 1)) ∧
    10000 * (dt (uv (d + 1)) (uv (d + 1)) - dt (uv d) (uv (d + 1))) ≤ 89 * cr (uv d) (uv (d + 1)) ∧ 999997000000 < dt (uv d) (uv d) ∧ dt (uv d) (uv d) < 1000003000000 := by
  have hb := ang_bd d
  have hl := uL_len
  have := nearAll_out uL 361 near_ok (ang d).toNat (by omega) (by omega)
  rw [← uv_of (d := d) (ang d).toNat (by unfold ang; omega), ← uv_of (d := d + 1) ((ang d).toNat + 1) (by unfold ang; omega)] at this
  simp only [near1, Bool.and_eq_true, decide_eq_true_eq] at this
  obtain ⟨⟨⟨⟨h1, h2⟩, h3⟩, h4⟩, h5⟩ := this
  exact ⟨h1, h2, h3, h4, h5⟩

/-- How far a way leads in a direction. -/
def prog (wx wy : Int) (d : Int) : Int := wx * sinR d + wy * sinR (d + 90)
theorem prog_uv (wx wy d : Int) : prog wx wy d = wx * (uv d).1 + wy * (uv d).2 := rfl
theorem prog_same (wx wy : Int) {d e : Int} (h : ang d = ang e) : prog wx wy d = prog wx wy e := by
  rw [prog_uv, prog_uv, ← uv_ang d, h, uv_ang]
theorem prog_half (wx wy d : Int) : prog wx wy (d + 180) = -prog wx wy d := by
  unfold prog
  rw [sin_half, show d + 180 + 90 = d + 90 + 180 by omega, sin_half]
  grind
theorem prog_neg (wx wy d : Int) : prog (-wx) (-wy) d = -prog wx wy d := by unfold prog; grind

/-- The first of the numbers below n with the greatest value. -/
def Best (f : Int → Int) (n r : Int) : Prop := 0 ≤ r ∧ r < n ∧ (∀ i, 0 ≤ i → i < n → f i ≤ f r) ∧ ∀ i, 0 ≤ i → i < r → f i < f r
theorem Best.one {f : Int → Int} {n r s : Int} (h : Best f n r) (k : Best f n s) : r = s := by
  obtain ⟨h0, h1, h2, h3⟩ := h
  obtain ⟨k0, k1, k2, k3⟩ := k
  by_cases hl : r < s
  · have := k3 r h0 hl; have := h2 s k0 k1; omega
  · by_cases hl' : s < r
    · have := h3 s k0 hl'; have := k2 r h0 h1; omega
    · omega

theorem best_all {wx wy r : Int} (h : Best (prog wx wy) 360 r) (d : Int) : prog wx wy d ≤ prog wx wy r := by
  rw [← prog_same wx wy (d := ang d) (e := d) (by unfold ang; omega)]
  exact h.2.2.1 _ (ang_bd d).1 (ang_bd d).2

theorem most_pos {wx wy M : Int} (hw : wx ≠ 0 ∨ wy ≠ 0) (h : ∀ d, prog wx wy d ≤ M) : 0 < M := by
  have s0 : sinR 0 = 0 := by decide +kernel
  have s1 : sinR 90 = 1000000 := by decide +kernel
  have s2 : sinR 180 = 0 := by decide +kernel
  have s3 : sinR 270 = -1000000 := by decide +kernel
  have s4 : sinR 360 = 0 := by decide +kernel
  have h0 := h 0
  have h1 := h 90
  have h2 := h 180
  have h3 := h 270
  unfold prog at h0 h1 h2 h3
  simp only [show (0 : Int) + 90 = 90 from rfl, show (90 : Int) + 90 = 180 from rfl, show (180 : Int) + 90 = 270 from rfl, show (270 : Int) + 90 = 360 from rfl, s0, s1, s2, s3, s4] at h0 h1 h2 h3
  omega

theorem half_no {wx wy M : Int} (x k : Int) (hM : 0 < M) (h : ∀ d, prog wx wy d ≤ M) (h1 : prog wx wy x = M) (h2 : prog wx wy (x + k) = M) (k2 : 2 ≤ k) (k3 : k < 180) : False := by
  obtain ⟨c0, c1⟩ := conv_at x k k2 k3
  have hm := h (x + 1)
  rw [prog_uv] at h1 h2 hm
  generalize uv x = u at *
  generalize uv (x + k) = z at *
  generalize uv (x + 1) = m at *
  have e : cr u z * (wx * m.1 + wy * m.2) = (cr m z + cr u m) * M := by
    have e1 : cr u z * (wx * m.1 + wy * m.2) = cr m z * (wx * u.1 + wy * u.2) + cr u m * (wx * z.1 + wy * z.2) := by unfold cr; grind
    rw [e1, h1, h2]; grind
  have e2 : cr u z * (wx * m.1 + wy * m.2) ≤ cr u z * M := Int.mul_le_mul_of_nonneg_left hm c0
  have e3 : cr u z * M < (cr m z + cr u m) * M := Int.mul_lt_mul_of_pos_right c1 hM
  omega

theorem two_best {wx wy M : Int} (x z : Int) (hM : 0 < M) (h : ∀ d, prog wx wy d ≤ M) (h1 : prog wx wy x = M) (h2 : prog wx wy z = M) :
    (z - x) % 360 = 0 ∨ (z - x) % 360 = 1 ∨ (z - x) % 360 = 359 := by
  have hb : 0 ≤ (z - x) % 360 ∧ (z - x) % 360 < 360 := by omega
  by_cases a : (z - x) % 360 < 2
  · omega
  · by_cases b : (z - x) % 360 < 180
    · exact (half_no x ((z - x) % 360) hM h h1 (by rw [prog_same wx wy (e := z) (by unfold ang; omega)]; exact h2) (by omega) b).elim
    · by_cases c : (z - x) % 360 = 180
      · have := prog_half wx wy x
        rw [prog_same wx wy (e := z) (by unfold ang; omega)] at this
        omega
      · by_cases e : (z - x) % 360 = 359
        · omega
        · exact (half_no z ((x - z) % 360) hM h h2 (by rw [prog_same wx wy (e := x) (by unfold ang; omega)]; exact h1) (by omega) (by omega)).elim

/-- The smaller angle between two directions. -/
def turnR (a b : Int) : Int := if 360 - ang (ang a - ang b) < ang (ang a - ang b) then 360 - ang (ang a - ang b) else ang (ang a - ang b)
theorem turn_bd (a b : Int) : 0 ≤ turnR a b ∧ turnR a b ≤ 180 := by unfold turnR ang; omega
theorem turn_comm (a b : Int) : turnR a b = turnR b a := by unfold turnR ang; omega
theorem turn_self (a : Int) : turnR a a = 0 := by unfold turnR ang; omega

theorem best_back {wx wy x y : Int} (hw : wx ≠ 0 ∨ wy ≠ 0) (h : Best (prog wx wy) 360 x) (k : Best (prog (-wx) (-wy)) 360 y) : 179 ≤ turnR x y := by
  have h1 := best_all h
  have hM := most_pos hw h1
  have e1 : prog wx wy (y + 180) ≤ prog wx wy x := h1 _
  have e2 : prog (-wx) (-wy) (x + 180) ≤ prog (-wx) (-wy) y := best_all k _
  rw [prog_neg, prog_neg, prog_half] at e2
  rw [prog_half] at e1
  have := two_best x (y + 180) hM h1 rfl (by rw [prog_half]; omega)
  have hx := h.1; have hx1 := h.2.1
  have hy := k.1; have hy1 := k.2.1
  unfold turnR ang
  omega

theorem unit_sq (d : Int) : -3000000 < sinR d * sinR d + cosR d * cosR d - 1000000000000 ∧ sinR d * sinR d + cosR d * cosR d - 1000000000000 < 3000000 := by
  have h := (near_at d).2.2.2
  rw [cos_eq]
  unfold dt uv at h
  simp only at h
  omega

end Go.Proofs.YthccbipjmheoaaaDoor.Pm
