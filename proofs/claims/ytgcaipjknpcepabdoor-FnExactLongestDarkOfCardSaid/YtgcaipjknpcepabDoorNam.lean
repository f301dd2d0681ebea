/- Colors of bytes; the light at a time: the model's and the program's. -/
import Derived.Test.YtgcaipjknpcepabDoorFrm
import Derived.Test.YtgcaipjknpcepabDoorLen
namespace Go.Proofs.YtgcaipjknpcepabDoor
open Go.ChangeShapes Go.WideShapes Go.ChangeAt Go.RowKit Pm

theorem retSIp {a b : ByteArray} {c d : Int} (h : a = b) (k : c = d) : Ending.returned (.tuple #[.string a, .int .i64 c]) = .returned (.tuple #[.string b, .int .i64 d]) := by rw [h, k]
theorem conv_oneP (W : World) (c : UInt8) (z : Int) (hz : z = (c.toNat : Int)) :
    (convert 39 9 (.slice (some ⟨W.heap.size, 0, none⟩) 1 1)).run Tryd.prog (W.alloc (.cells #[Value.int .u8 z] 5)) = .ok (.string ⟨#[c]⟩) (W.alloc (.cells #[Value.int .u8 z] 5)) := by
  subst hz
  exact run_convert_bytes_back (P := Tryd.prog) (W.alloc (.cells #[Value.int .u8 (c.toNat : Int)] 5)) 39 9 5 ⟨W.heap.size, 0, none⟩ 1 [c] Tryd.underlying39 Tryd.underlying5 Tryd.underlying9 (fun j hj => by
    obtain rfl : j = 0 := by simpa using hj
    simp [Addr.add])
/-- The color of the model's byte. -/
def nameV (b : UInt8) : ByteArray := if b = 0 then ⟨#[]⟩ else ⟨#[b]⟩
theorem sname_any (b : UInt8) (w : World) :
    Calls Tryd.prog 40 #[.int .u8 (b.toNat : Int)] w fun e w' => e = .returned (.string (nameV b)) ∧ Below w.heap.size w w' := by
  by_cases h : b = 0
  · have HV := Lib.hid (show nameV b = ⟨#[]⟩ by unfold nameV; rw [if_pos h])
    have h0 : (b.toNat : Int) = 0 := by rw [h]; rfl
    rw [h0]
    clear h h0
    go_enter Tryd.func40, Tryd.ntmps40
    go_wp2
    go_ret
    exact ⟨retS HV.out.symm, Below.refl _ _⟩
  · have HV := Lib.hid (show nameV b = ⟨#[b]⟩ by unfold nameV; rw [if_neg h])
    have h0 : (b.toNat : Int) ≠ 0 := by intro e; exact h (UInt8.toNat_inj.1 (by show b.toNat = 0; omega))
    obtain ⟨z, hz⟩ : ∃ z, z = (b.toNat : Int) := ⟨_, rfl⟩
    have hcv := fun (W : World) => conv_oneP W b z hz
    rw [← hz] at h0 ⊢
    have h1 : (z == 0) = false := beq_eq_false_iff_ne.2 h0
    clear h h0 hz
    go_enter Tryd.func40, Tryd.ntmps40
    go_wp2
    go_ret
    exact ⟨retS HV.out.symm, (Below.refl _ _).alloc (Nat.le_refl _) _⟩
/-- The color with a sign. -/
def colP (t : ByteArray) : ByteArray := if t.toList == [45] then ⟨#[]⟩ else t
theorem colp_any (s : ByteArray) (w : World) :
    Calls Tryd.prog 50 #[.string s] w fun e w' => e = .returned (.string (colP s)) ∧ w = w' := by
  cases h : (s.toList == [45])
  · have HV := Lib.hid (show colP s = s by unfold colP; rw [h]; rfl)
    go_enter Tryd.func50, Tryd.ntmps50
    go_wp2
    go_ret
    exact ⟨retS HV.out.symm, rfl⟩
  · have HV := Lib.hid (show colP s = ⟨#[]⟩ by unfold colP; rw [h]; rfl)
    go_enter Tryd.func50, Tryd.ntmps50
    go_wp2
    go_ret
    exact ⟨retS HV.out.symm, rfl⟩
theorem colP_name {b : UInt8} (h : picb b = true) : colP ⟨#[b]⟩ = nameV (unT b) := by
  have e : (⟨#[b]⟩ : ByteArray).toList = [b] := by rw [ByteArray.toList_eq]
  unfold colP nameV unT
  rw [e]
  rcases picb_cases h with rfl | rfl | rfl | rfl | rfl <;> rfl
/-- The light at a time. -/
def atV (T : List UInt8) (t : Int) : ByteArray := nameV (unT (T.getD (plc t T.length) 45))
def litV (ps : List Ph) (t : Int) : ByteArray := if validP ps then atV (tenL ps) t else ⟨#[]⟩
theorem rot_head (T : List UInt8) (b : Nat) (hb : b < T.length) : (⟨(rotL T b).toArray⟩ : ByteArray).extract 0 1 = ⟨#[T.getD b 45]⟩ := by
  rw [ext_eq]
  refine WideShapes.bytes_inj ?_
  unfold rotL
  have e : T.getD b 45 = T[b] := by rw [List.getD_eq_getElem?_getD, List.getElem?_eq_getElem hb]; rfl
  rw [List.drop_zero, List.drop_eq_getElem_cons hb, e]
  rfl
theorem get_map (T : List UInt8) (b : Nat) (hb : b < T.length) : (T.map unT)[b]'(by rw [List.length_map]; exact hb) = unT (T.getD b 45) := by
  rw [List.getElem_map]; simp [hb]
end Go.Proofs.YtgcaipjknpcepabDoor
