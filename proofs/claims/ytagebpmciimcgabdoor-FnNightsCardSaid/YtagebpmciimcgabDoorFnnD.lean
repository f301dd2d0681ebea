/- The draws of nights: a latitude, a day, a season. -/
import Derived.Test.YtagebpmciimcgabDoorDrw
import Derived.Test.YtagebpmciimcgabDoorKit
namespace Go.Proofs.YtagebpmciimcgabDoor
open Go.ChangeShapes Go.WideShapes Go.ChangeAt Go.RowKit Pm

theorem num_at (W : World) (xs : List Int) (T : TypeId) (B : Nat) (h : W.heap.size = B) : ∀ i, i < xs.length → (W.alloc (.cells (xs.map (Value.int .i64)).toArray T)).cell? ⟨B, i, none⟩ = some (.int .i64 (xs.getD i 0)) := by
  subst h
  intro i hi
  have h := (MapKept.heap_alloc W (.cells (xs.map (Value.int .i64)).toArray T)).1
  simp only [World.cell?, h]
  simp [hi]
def InP (lo hi : Int) (v : Value) : Prop := ∃ x : Int, lo ≤ x ∧ x ≤ hi ∧ v = .int .i64 x

theorem lat_draw (w0 w : World) (bs : Nat) (sv : Value) (zs : List Int) (k : Nat) (hk : k ≤ 800000) (h : Src w0 bs sv zs k w) :
    Calls Tryd.prog 50 #[.pointer (some ⟨bs, 0, none⟩)] w (Drawn (InP (-67) 67) w0 bs sv zs (k + 4) w) := by
  have H1 := Lib.hid (one_draw w0 w bs sv zs k 8 (by omega) (by omega) (by omega) h)
  clear h
  go_enter Tryd.func50, Tryd.ntmps50
  go_wp2_with (go_at_call 48; refine H1.out.mono ?_; rintro e w2 ⟨_, ⟨b, rfl⟩, rfl, hS2, ho2⟩; refine Hid.out ?_)
  refine Lib.hid ?_
  have hlt := hS2.lt
  have S2 := Lib.hid hS2
  have O2 := Lib.hid ho2
  clear hS2 ho2
  cases b
  · go_wp2_with (go_at_call 47; refine (pick_draw w0 _ bs sv zs (k + 2) 133 (by omega) (by omega) (by omega) S2.out).mono ?_; rintro e w3 ⟨_, ⟨x, x0, x1, rfl⟩, rfl, hS3, ho3⟩; refine Hid.out ?_)
    refine Lib.hid ?_
    have S3 := Lib.hid hS3
    have O3 := Lib.hid (O2.out.trans ho3)
    clear hS3 ho3
    go_wp2_with (fail)
    go_ret
    exact ⟨_, ⟨x - 66, by omega, by omega, rfl⟩, rfl, S3.out, O3.out⟩
  · go_wp2_with (go_at_call 84; refine (among_draw w0 _ bs sv zs (k + 2) _ _ [-66, 66, 67, -67, 0] (by omega) (by simp) (by simp) (by omega) (num_at _ _ _ _ (by simp)) (S2.out.alloc _)).mono ?_; rintro e w3 ⟨_, ⟨x, hx, rfl⟩, rfl, hS3, ho3⟩; refine Hid.out ?_)
    refine Lib.hid ?_
    obtain ⟨x0, x1⟩ : -67 ≤ x ∧ x ≤ 67 := by simp at hx; omega
    have S3 := Lib.hid hS3
    have O3 := Lib.hid ((O2.out.alloc _).trans ho3)
    clear hS3 ho3 hx
    go_wp2_with (fail)
    go_ret
    exact ⟨_, ⟨x, x0, x1, rfl⟩, rfl, S3.out, O3.out⟩

theorem day_draw (w0 w : World) (bs : Nat) (sv : Value) (zs : List Int) (k : Nat) (hk : k ≤ 800000) (h : Src w0 bs sv zs k w) :
    Calls Tryd.prog 51 #[.pointer (some ⟨bs, 0, none⟩)] w (Drawn (InP (-1) 100000) w0 bs sv zs (k + 4) w) := by
  have H1 := Lib.hid (pick_draw w0 w bs sv zs k 8 (by omega) (by omega) (by omega) h)
  clear h
  go_enter Tryd.func51, Tryd.ntmps51
  go_wp2_with (go_at_call 47; refine H1.out.mono ?_; rintro e w2 ⟨_, ⟨x, x0, x1, rfl⟩, rfl, hS2, ho2⟩; refine Hid.out ?_)
  refine Lib.hid ?_
  have hlt := hS2.lt
  have S2 := Lib.hid hS2
  have O2 := Lib.hid ho2
  clear hS2 ho2
  by_cases e0 : x = 0
  · subst e0
    go_wp2_with (go_at_call 84; refine (among_draw w0 _ bs sv zs (k + 2) _ _ [-1, 0, 99999, 100000] (by omega) (by simp) (by simp) (by omega) (num_at _ _ _ _ (by simp)) (S2.out.alloc _)).mono ?_; rintro e w3 ⟨_, ⟨x, hx, rfl⟩, rfl, hS3, ho3⟩; refine Hid.out ?_)
    refine Lib.hid ?_
    obtain ⟨x0, x1⟩ : -1 ≤ x ∧ x ≤ 100000 := by simp at hx; omega
    have S3 := Lib.hid hS3
    have O3 := Lib.hid ((O2.out.alloc _).trans ho3)
    clear hS3 ho3 hx
    go_wp2_with (fail)
    go_ret
    exact ⟨_, ⟨x, x0, x1, rfl⟩, rfl, S3.out, O3.out⟩
  · by_cases e1 : x = 1
    · subst e1
      go_wp2_with (go_at_call 84; refine (among_draw w0 _ bs sv zs (k + 2) _ _ [171, 172, 355, 356] (by omega) (by simp) (by simp) (by omega) (num_at _ _ _ _ (by simp)) (S2.out.alloc _)).mono ?_; rintro e w3 ⟨_, ⟨x, hx, rfl⟩, rfl, hS3, ho3⟩; refine Hid.out ?_)
      refine Lib.hid ?_
      obtain ⟨y0, y1⟩ : 171 ≤ x ∧ x ≤ 356 := by simp at hx; omega
      have S3 := Lib.hid hS3
      have O3 := Lib.hid ((O2.out.alloc _).trans ho3)
      clear hS3 ho3 hx
      go_wp2_with (fail)
      go_ret
      exact ⟨_, ⟨9000 + x, by omega, by omega, rfl⟩, rfl, S3.out, O3.out⟩
    · go_wp2_with (go_at_call 47; refine (pick_draw w0 _ bs sv zs (k + 2) 800 (by omega) (by omega) (by omega) S2.out).mono ?_; rintro e w3 ⟨_, ⟨y, y0, y1, rfl⟩, rfl, hS3, ho3⟩; refine Hid.out ?_)
      refine Lib.hid ?_
      have S3 := Lib.hid hS3
      have O3 := Lib.hid (O2.out.trans ho3)
      clear hS3 ho3
      go_wp2_with (fail)
      go_ret
      exact ⟨_, ⟨9000 + y, by omega, by omega, rfl⟩, rfl, S3.out, O3.out⟩

def PairP (v : Value) : Prop := ∃ x y : Int, -67 ≤ x ∧ x ≤ 67 ∧ -1 ≤ y ∧ y ≤ 100000 ∧ v = .tuple #[.int .i64 x, .int .i64 y]
def SeasonP (v : Value) : Prop := ∃ x y c : Int, -67 ≤ x ∧ x ≤ 67 ∧ -1 ≤ y ∧ y ≤ 100000 ∧ 0 ≤ c ∧ c ≤ 401 ∧ v = .tuple #[.int .i64 x, .int .i64 y, .int .i64 c]

theorem season_draw (w0 w : World) (bs : Nat) (sv : Value) (zs : List Int) (k : Nat) (hk : k ≤ 700000) (h : Src w0 bs sv zs k w) :
    Calls Tryd.prog 56 #[.pointer (some ⟨bs, 0, none⟩)] w (Drawn SeasonP w0 bs sv zs (k + 14) w) := by
  have S0 := Lib.hid h
  clear h
  go_enter Tryd.func56, Tryd.ntmps56
  go_wp2_with (go_at_call 50; refine (lat_draw w0 _ bs sv zs k (by omega) S0.out).mono ?_; rintro e w1 ⟨_, ⟨x, x0, x1, rfl⟩, rfl, hS1, ho1⟩; refine Hid.out ?_)
  refine Lib.hid ?_
  have S1 := Lib.hid hS1
  have O1 := Lib.hid ho1
  clear hS1 ho1
  go_wp2_with (go_at_call 51; refine (day_draw w0 _ bs sv zs (k + 4) (by omega) S1.out).mono ?_; rintro e w2 ⟨_, ⟨y, y0, y1, rfl⟩, rfl, hS2, ho2⟩; refine Hid.out ?_)
  refine Lib.hid ?_
  have S2 := Lib.hid hS2
  have O2 := Lib.hid (O1.out.trans ho2)
  clear hS2 ho2
  go_wp2_with (go_at_call 47; refine (pick_draw w0 _ bs sv zs (k + 4 + 4) 40 (by omega) (by omega) (by omega) S2.out).mono ?_; rintro e w3 ⟨_, ⟨c, c0, c1, rfl⟩, rfl, hS3, ho3⟩; refine Hid.out ?_)
  refine Lib.hid ?_
  have S3 := Lib.hid hS3
  have O3 := Lib.hid (O2.out.trans ho3)
  clear hS3 ho3
  go_wp2_with (go_at_call 48; refine (one_draw w0 _ bs sv zs (k + 4 + 4 + 2) 10 (by omega) (by omega) (by omega) S3.out).mono ?_; rintro e w4 ⟨_, ⟨b, rfl⟩, rfl, hS4, ho4⟩; refine Hid.out ?_)
  refine Lib.hid ?_
  have hlt := hS4.lt
  have S4 := Lib.hid hS4
  have O4 := Lib.hid (O3.out.trans ho4)
  clear hS4 ho4
  cases b
  · go_wp2_with (fail)
    go_returns
    exact ⟨_, ⟨x, y, c + 1, x0, x1, y0, y1, by omega, by omega, rfl⟩, rfl, S4.out.more (by omega), O4.out⟩
  · go_wp2_with (go_at_call 84; refine (among_draw w0 _ bs sv zs (k + 4 + 4 + 2 + 2) _ _ [0, 400, 401, 1] (by omega) (by simp) (by simp) (by omega) (num_at _ _ _ _ (by simp)) (S4.out.alloc _)).mono ?_; rintro e w5 ⟨_, ⟨m, hm, rfl⟩, rfl, hS5, ho5⟩; refine Hid.out ?_)
    refine Lib.hid ?_
    obtain ⟨m0, m1⟩ : 0 ≤ m ∧ m ≤ 401 := by simp at hm; omega
    have S5 := Lib.hid hS5
    have O5 := Lib.hid ((O4.out.alloc _).trans ho5)
    clear hS5 ho5 hm
    go_wp2_with (fail)
    go_returns
    exact ⟨_, ⟨x, y, m, x0, x1, y0, y1, m0, m1, rfl⟩, rfl, S5.out, O5.out⟩

theorem night_draw (w : World) (sv : Value) (zs : List Int) (h : ArgIn .u8 w sv zs) (hz : BytesAre zs) (hl : zs.length ≤ 1048576) :
    Calls Tryd.prog 20 #[sv] w fun e w' => ∃ v, PairP v ∧ e = .returned v ∧ Below w.heap.size w w' := by
  have H0 := Lib.hid (from_new w sv zs h hz hl)
  clear h hz hl
  go_enter Tryd.func20, Tryd.ntmps20
  go_wp2_with (go_at_call 46; refine H0.out.mono ?_; rintro e w1 ⟨rfl, hS1, hb1⟩; refine Hid.out ?_)
  refine Lib.hid ?_
  have S1 := Lib.hid hS1
  clear hS1 hb1
  go_wp2_with (go_at_call 50; refine (lat_draw w _ w.heap.size sv zs 0 (by omega) S1.out).mono ?_; rintro e w2 ⟨_, ⟨x, x0, x1, rfl⟩, rfl, hS2, ho2⟩; refine Hid.out ?_)
  refine Lib.hid ?_
  have S2 := Lib.hid hS2
  clear hS2 ho2
  go_wp2_with (go_at_call 51; refine (day_draw w _ w.heap.size sv zs 4 (by omega) S2.out).mono ?_; rintro e w3 ⟨_, ⟨y, y0, y1, rfl⟩, rfl, hS3, ho3⟩; refine Hid.out ?_)
  refine Lib.hid ?_
  have S3 := Lib.hid hS3
  clear hS3 ho3
  go_wp2_with (fail)
  go_returns
  exact ⟨_, ⟨x, y, x0, x1, y0, y1, rfl⟩, rfl, S3.out.bel⟩

theorem nights_draw (w : World) (sv : Value) (zs : List Int) (h : ArgIn .u8 w sv zs) (hz : BytesAre zs) (hl : zs.length ≤ 1048576) :
    Calls Tryd.prog 27 #[sv] w fun e w' => ∃ v, SeasonP v ∧ e = .returned v ∧ Below w.heap.size w w' := by
  have H0 := Lib.hid (from_new w sv zs h hz hl)
  clear h hz hl
  go_enter Tryd.func27, Tryd.ntmps27
  go_wp2_with (go_at_call 46; refine H0.out.mono ?_; rintro e w1 ⟨rfl, hS1, hb1⟩; refine Hid.out ?_)
  refine Lib.hid ?_
  have S1 := Lib.hid hS1
  clear hS1 hb1
  go_wp2_with (go_at_call 56; refine (season_draw w _ w.heap.size sv zs 0 (by omega) S1.out).mono ?_; rintro e w2 ⟨_, ⟨x, y, c, x0, x1, y0, y1, c0, c1, rfl⟩, rfl, hS2, ho2⟩; refine Hid.out ?_)
  refine Lib.hid ?_
  have S2 := Lib.hid hS2
  clear hS2 ho2
  go_wp2_with (fail)
  go_returns
  exact ⟨_, ⟨x, y, c, x0, x1, y0, y1, c0, c1, rfl⟩, rfl, S2.out.bel⟩
end Go.Proofs.YtagebpmciimcgabDoor
