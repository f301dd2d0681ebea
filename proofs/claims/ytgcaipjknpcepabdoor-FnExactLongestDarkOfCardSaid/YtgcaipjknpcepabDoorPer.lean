/- The least period of a picture: the program's function. -/
import Derived.Test.YtgcaipjknpcepabDoorPerM
import Derived.Test.YtgcaipjknpcepabDoorLayC
namespace Go.Proofs.YtgcaipjknpcepabDoor
open Go.ChangeShapes Go.WideShapes Go.ChangeAt Go.RowKit Pm

/-- The library's own variable holds some number. -/
def LenAt (w : World) : Prop := ∃ m, w.cell? ⟨Tryd.laysM143_ren.g 1, 0, none⟩ = some (.int .i64 m)
theorem LenAt.below {w w' : World} (h : LenAt w) (hb : Below w.heap.size w w') : LenAt w' := by
  obtain ⟨m, hm⟩ := h
  exact ⟨m, cell_below hm hb⟩
theorem len_of {w : World} (h : w.ShapedOpen Tryd.prog) : LenAt w := Tryd.laysM143.s1_3 w h
theorem LenAt.drew {w : World} (h : LenAt w) : LenAt w.drew := h.below (Below.refl _ _).drew
theorem index_any (s sub : ByteArray) (w : World) (hs : s.size < 4294967281) (h : LenAt w) :
    Calls Tryd.prog 69 #[.string s, .string sub] w fun e w' => e = .returned (.int .i64 (Lib.index s.data.toList sub.data.toList)) ∧ w' = w := by
  obtain ⟨m, hm⟩ := h
  exact Any.strings_Index { Tryd.laysM143 with } s sub m w hs hm
set_option maxHeartbeats 1000000 in
theorem period_any (T : List UInt8) (w : World) (hp : 1 ≤ T.length) (hq : T.length ≤ 600) (hl : LenAt w) :
    Calls Tryd.prog 52 #[.string ⟨T.toArray⟩] w fun e w' => e = .returned (.int .i64 (perL T)) ∧ ∃ n, w' = w.drewN n := by
  have hi := twice_index T hp
  have hr := perL_is T hp
  have hz := pic_size T
  obtain ⟨z, hzz⟩ : ∃ z, z = perL T := ⟨_, rfl⟩
  rw [← hzz] at hi hr ⊢
  have hz1 := hr.pos
  have hz2 := hr.le
  obtain ⟨s, hs⟩ : ∃ s, s = (⟨T.toArray⟩ : ByteArray) := ⟨_, rfl⟩
  have hsd : s.data.toList = T := by rw [hs]
  have hsx : ((s ++ s).extract 1 (s ++ s).size).data.toList = (T ++ T).drop 1 := by
    rw [hs]; simp [ByteArray.size, ByteArray.data_append]; exact List.take_of_length_le (by simp)
  rw [← hs] at hz ⊢
  have k1 := fun w => run_string_add_sum (P := Tryd.prog) (w := w) s s (by omega)
  have hss : (s ++ s).size = s.size + s.size := ByteArray.size_append
  obtain ⟨d, hd⟩ : ∃ d, d = s ++ s := ⟨_, rfl⟩
  rw [← hd] at k1 hss hsx
  have HI := Lib.hid (fun w (h : LenAt w) => index_any (d.extract 1 d.size) s w (by rw [ByteArray.size_extract]; omega) h)
  rw [hsx, hsd] at HI
  rw [show d.size = T.length + T.length by omega] at HI
  obtain ⟨x, hx⟩ : ∃ x, x = Lib.index ((T ++ T).drop 1) T := ⟨_, rfl⟩
  rw [← hx] at HI hi
  have HX := Lib.hid hi
  have HL := Lib.hid hl
  have h1d : (1 : Int) ≤ (d.size : Int) := by omega
  have hxl : -1 ≤ x ∧ x ≤ 600 := by omega
  clear hd hsx hsd hs hr hzz hx hi hl
  go_enter Tryd.func52, Tryd.ntmps52
  go_wp2_with (go_at_call 69; refine (HI.out _ (by first | exact HL.out | exact HL.out.drew | exact HL.out.drew.drew)).mono ?_; rintro e w1 ⟨rfl, rfl⟩)
  go_ret
  exact ⟨ret_i HX.out, 0, rfl⟩
end Go.Proofs.YtgcaipjknpcepabDoor
