/- Texts of fog signals. -/
import Derived.Test.YthheacebafleeacGreatDoorFogM
import Derived.Test.YthheacebafleeacGreatDoorOkX
import Derived.Lib.ItoaLen
namespace Go.Proofs.YthheacebafleeacGreatDoor
open Go.ChangeShapes Go.WideShapes Go.ChangeAt Go.RowKit Pm

/-- A number in decimal. -/
def decT (z : Int) : ByteArray := ⟨(Lib.itoa z).toArray⟩
theorem decT_size {n : Int} (h0 : 0 ≤ n) (h1 : n ≤ 1000000) : (decT n).size ≤ 21 := by simpa [decT, ByteArray.size] using Lib.itoa_length_le n (by omega) (by omega)
/-- Tenths of a second in seconds. -/
def secT (n : Int) : ByteArray := if n % 10 = 0 then decT (n / 10) ++ ⟨#[115]⟩ else decT (n / 10) ++ ⟨#[46]⟩ ++ decT (n % 10) ++ ⟨#[115]⟩
/-- The first word; the whole text. -/
def fogHead (k b : Int) : ByteArray := if 1 < b then fogNm k ++ (⟨#[40]⟩ ++ decT b ++ ⟨#[41]⟩) else fogNm k
def fogT (k b p q : Int) : ByteArray := fogHead k b ++ ⟨#[32]⟩ ++ secT p ++ ⟨#[32]⟩ ++ decT q
def fogText (k b p q : Int) : ByteArray := if fogOk k b p q then fogT k b p q else ⟨#[]⟩
theorem fogNm_size (k : Int) : (fogNm k).size ≤ 5 := by
  unfold fogNm
  repeat' split
  all_goals decide
theorem one_size (x : UInt8) : (⟨#[x]⟩ : ByteArray).size = 1 := rfl
theorem secT_size {n : Int} (h0 : 0 ≤ n) (h1 : n ≤ 1000000) : (secT n).size ≤ 44 := by
  have a := decT_size (n := n / 10) (by omega) (by omega)
  have b := decT_size (n := n % 10) (by omega) (by omega)
  unfold secT
  split <;> simp only [ByteArray.size_append, one_size] <;> omega
theorem fogHead_size {k b : Int} (h0 : 0 ≤ b) (h1 : b ≤ 6) : (fogHead k b).size ≤ 28 := by
  have a := decT_size (n := b) (by omega) (by omega)
  have c := fogNm_size k
  unfold fogHead
  split
  · simp only [ByteArray.size_append, one_size]
    omega
  · omega

end Go.Proofs.YthheacebafleeacGreatDoor
