/- The length of a channel: the model's, and both words whole. -/
import Derived.Test.YthccbipjmheoaaaLenI
namespace Go.Proofs.Ythccbipjmheoaaa
open Go.ChangeShapes Go.WideShapes Go.ChangeAt Go.RowKit Pm

theorem sapart_v (p q : Int × Int) (hp : okB p = true) (hq : okB q = true) (w : World) :
    Calls Try.prog 66 #[.agg #[.int .i64 p.1, .int .i64 p.2], .agg #[.int .i64 q.1, .int .i64 q.2]] w fun e w' => e = .returned (.int .i64 (dstV p q)) ∧ Below w.heap.size w w' :=
  (sapart_any p.1 p.2 q.1 q.2 w (vd_of hp) (vd_of hq)).mono fun _ _ ⟨r, hr, he, hb⟩ => ⟨by
    have hd : DistIs p.1 p.2 q.1 q.2 r := by unfold DistIs; rw [if_pos (by rw [show okB (p.1, p.2) = true from hp, show okB (q.1, q.2) = true from hq]; rfl)]; exact hr
    rw [he, hd.one (dstV_is p q)], hb⟩
def lenE (s : ByteArray) (ps : Pts) (z : Int) : Int := if okC s ps z = true then 0 else 1
/-- A row of points that reads, and has the room for them. -/
def PtsC (w : World) (v : Value) (ps : Pts) : Prop := PtsL w v ps ∧ ∃ a c, v = .slice a ps.length c ∧ ps.length ≤ c
theorem PtsC.below {w w' : World} {v : Value} {ps : Pts} (h : PtsC w v ps) (hb : Below w.heap.size w w') : PtsC w' v ps := ⟨h.1.below hb, h.2⟩
theorem OwnPt.ptsc {w : World} {B : Nat} {v : Value} {ps : Pts} (h : OwnPt w B v ps) (hn : ps.length ≤ 1048576) : PtsC w v ps := by
  refine ⟨h.pts hn, ?_⟩
  have h1 := h.1
  rcases h.2 with ⟨h1, h2⟩ | ⟨g, cap, cur, h1, h3, h4, h5⟩
  · exact ⟨_, _, by rw [h1, show ps.length = 0 by simpa using h2], by have e : ps.length = 0 := (by simpa using h2); omega⟩
  · exact ⟨_, _, h1, h5.1⟩
theorem PtsC.cells {w : World} {v : Value} {ps : Pts} (h : PtsC w v ps) (h1 : 1 ≤ ps.length) : ∃ bb off cap, v = .slice (some ⟨bb, off, none⟩) ps.length cap ∧ ps.length ≤ cap ∧ ∀ i, i < ps.length → w.cell? ⟨bb, off + i * 2, none⟩ = some (.int .i64 (ps.getD i (0, 0)).1) ∧ w.cell? ⟨bb, off + i * 2 + 1, none⟩ = some (.int .i64 (ps.getD i (0, 0)).2) := by
  obtain ⟨⟨a, c, rfl, h⟩, a2, c2, hv2, hc2⟩ := h
  rcases h with ⟨_, rfl⟩ | ⟨bb, off, cap, hv, _, hp⟩
  · simp at h1
  · simp only [Value.slice.injEq, true_and] at hv hv2
    obtain ⟨rfl, rfl⟩ := hv
    exact ⟨bb, off, c, rfl, by rw [hv2.2]; exact hc2, hp⟩
end Go.Proofs.Ythccbipjmheoaaa
