/- What the functions of chapter 9 answer. No Go in sight. -/
import Derived.Test.YtbfhnfoaipaljaaDoorMath
import Derived.Test.YtbfhnfoaipaljaaDoorLogM
namespace Go.Proofs.YtbfhnfoaipaljaaDoor.Pm

theorem inB_yes {lo hi z : Int} (h : inB lo hi [z] = true) : lo ≤ z ∧ z ≤ hi := by simpa [inB] using h
theorem inB_in {lo hi z : Int} (h : lo ≤ z ∧ z ≤ hi) : inB lo hi [z] = true := by simpa [inB] using h
theorem inB_out {lo hi z : Int} (h : ¬(lo ≤ z ∧ z ≤ hi)) : inB lo hi [z] = false := by
  cases e : inB lo hi [z]
  · rfl
  · exact absurd (inB_yes e) h

theorem horV_root {h : Int} (h0 : 0 ≤ h) (h1 : h ≤ 3001) : Root (1483790 * h) (horV h) := by
  obtain ⟨a, b⟩ := hor_bd h0 h1
  obtain ⟨_, c, d⟩ := hor_sq h0
  exact ⟨a, by omega, fun e => by omega, fun _ => ⟨c, d⟩⟩

/-- A function's two answers. -/
def LogIs (n a c : Int) : Prop := (inB 1 1000000000000 [n] = false ∧ a = 0 ∧ c = 2) ∨ (inB 1 1000000000000 [n] = true ∧ a = logV n ∧ c = 0)
def HorIs (h a c : Int) : Prop := (inB 0 3000 [h] = false ∧ a = 0 ∧ c = 2) ∨ (inB 0 3000 [h] = true ∧ a = horV h ∧ c = 0)
def GeoIs (h e a c : Int) : Prop := ((inB 0 3000 [h] && inB 0 3000 [e]) = false ∧ a = 0 ∧ c = 2) ∨ ((inB 0 3000 [h] && inB 0 3000 [e]) = true ∧ a = horV h + horV e ∧ c = 0)
def EyeIs (h D a c : Int) : Prop := ((inB 0 3000 [h] && inB 1 100000 [D]) = false ∧ a = 0 ∧ c = 2) ∨ ((inB 0 3000 [h] && inB 1 100000 [D]) = true ∧ LeastIs (eyeB h D) 0 3000 a c)
def LumIs (I V a c : Int) : Prop := ((inB 1 100000000 [I] && inB 1 100000 [V]) = false ∧ a = 0 ∧ c = 2) ∨ ((inB 1 100000000 [I] && inB 1 100000 [V]) = true ∧ Most (seenB I V) 100000 a ∧ c = 0)
def IntIs (D V a c : Int) : Prop := ((inB 1 100000 [D] && inB 1 100000 [V]) = false ∧ a = 0 ∧ c = 2) ∨ ((inB 1 100000 [D] && inB 1 100000 [V]) = true ∧ LeastIs (fun I => seenB I V D) 1 100000000 a c)
def VisIs (I D a c : Int) : Prop := ((inB 1 100000000 [I] && inB 1 100000 [D]) = false ∧ a = 0 ∧ c = 2) ∨ ((inB 1 100000000 [I] && inB 1 100000 [D]) = true ∧ LeastIs (fun V => seenB I V D) 1 100000 a c)
def RngIs (I h e V a c : Int) : Prop := ∃ x y k l, LumIs I V x k ∧ GeoIs h e y l ∧ ((k = 0 ∧ l = 0 ∧ a = (if y < x then y else x) ∧ c = 0) ∨ ((k ≠ 0 ∨ l ≠ 0) ∧ a = 0 ∧ c = 2))

theorem and_yes {a b : Bool} (h : (a && b) = true) : a = true ∧ b = true := by simpa using h

theorem logIs_ex (n : Int) : ∃ a c, LogIs n a c := by
  cases h : inB 1 1000000000000 [n]
  · exact ⟨0, 2, .inl ⟨h, rfl, rfl⟩⟩
  · exact ⟨_, _, .inr ⟨h, rfl, rfl⟩⟩
theorem horIs_ex (n : Int) : ∃ a c, HorIs n a c := by
  cases h : inB 0 3000 [n]
  · exact ⟨0, 2, .inl ⟨h, rfl, rfl⟩⟩
  · exact ⟨_, _, .inr ⟨h, rfl, rfl⟩⟩
theorem geoIs_ex (h e : Int) : ∃ a c, GeoIs h e a c := by
  cases k : (inB 0 3000 [h] && inB 0 3000 [e])
  · exact ⟨0, 2, .inl ⟨k, rfl, rfl⟩⟩
  · exact ⟨_, _, .inr ⟨k, rfl, rfl⟩⟩
theorem eyeIs_ex (h D : Int) : ∃ a c, EyeIs h D a c := by
  cases k : (inB 0 3000 [h] && inB 1 100000 [D])
  · exact ⟨0, 2, .inl ⟨k, rfl, rfl⟩⟩
  · obtain ⟨r, hr⟩ := least_ex (eyeB h D) 0 3001 (fun a b h1 h2 _ h4 => eye_mono h1 h2 h4)
    obtain ⟨a, c, hc⟩ := leastIs_ex hr
    exact ⟨a, c, .inr ⟨k, hc⟩⟩
theorem lum_mono {I V : Int} (v0 : 1 ≤ V) (a b : Int) (h1 : 1 ≤ a) (h2 : a ≤ b) (h3 : b ≤ 100000) (h4 : seenB I V b = true) : seenB I V a = true := seen_D h1 h2 (by omega) v0 h4
theorem lumIs_ex (I V : Int) : ∃ a c, LumIs I V a c := by
  cases k : (inB 1 100000000 [I] && inB 1 100000 [V])
  · exact ⟨0, 2, .inl ⟨k, rfl, rfl⟩⟩
  · obtain ⟨r, hr⟩ := most_ex (seenB I V) 100000 (fun a b h1 h2 h3 h4 => lum_mono (inB_yes (and_yes k).2).1 a b h1 h2 h3 h4)
    exact ⟨r, 0, .inr ⟨k, hr, rfl⟩⟩
theorem intIs_ex (D V : Int) : ∃ a c, IntIs D V a c := by
  cases k : (inB 1 100000 [D] && inB 1 100000 [V])
  · exact ⟨0, 2, .inl ⟨k, rfl, rfl⟩⟩
  · obtain ⟨r, hr⟩ := least_ex (fun I => seenB I V D) 1 100000000 (fun a b h1 h2 h3 h4 => seen_I h1 h2 (by omega) h4)
    obtain ⟨a, c, hc⟩ := leastIs_ex hr
    exact ⟨a, c, .inr ⟨k, hc⟩⟩
theorem visIs_ex (I D : Int) : ∃ a c, VisIs I D a c := by
  cases k : (inB 1 100000000 [I] && inB 1 100000 [D])
  · exact ⟨0, 2, .inl ⟨k, rfl, rfl⟩⟩
  · obtain ⟨r, hr⟩ := least_ex (fun V => seenB I V D) 1 100000 (fun a b h1 h2 h3 h4 => seen_V (inB_yes (and_yes k).2).1 h1 h2 h4)
    obtain ⟨a, c, hc⟩ := leastIs_ex hr
    exact ⟨a, c, .inr ⟨k, hc⟩⟩
theorem rngIs_ex (I h e V : Int) : ∃ a c, RngIs I h e V a c := by
  obtain ⟨x, k, hk⟩ := lumIs_ex I V
  obtain ⟨y, l, hl⟩ := geoIs_ex h e
  by_cases c : k = 0 ∧ l = 0
  · exact ⟨_, 0, x, y, k, l, hk, hl, .inl ⟨c.1, c.2, rfl, rfl⟩⟩
  · exact ⟨0, 2, x, y, k, l, hk, hl, .inr ⟨by omega, rfl, rfl⟩⟩
end Go.Proofs.YtbfhnfoaipaljaaDoor.Pm
